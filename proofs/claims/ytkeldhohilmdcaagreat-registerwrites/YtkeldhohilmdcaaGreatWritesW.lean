/-
  register: the walk of RegisterWrites (6).
-/
import Derived.Test.YtkeldhohilmdcaaGreatSrtO
import Derived.Test.YtkeldhohilmdcaaGreatStands12
import Derived.Test.YtkeldhohilmdcaaGreatRegK
import Derived.Deep.DeepCutAuto
import Derived.Deep.CutBlock
namespace Go.Proofs.YtkeldhohilmdcaaGreat
open Go.RowKit Go.Shelf
set_option linter.unusedSimpArgs false
attribute [local go_sem] Oper.semAt_some

theorem encE_np (x : El) (j : Nat) (u : Value) (h : (encE x)[j]? = some u) : ∀ p, u ≠ .pointer p := fun p e => by
  have hm := List.mem_of_getElem? h
  rw [e] at hm
  simp [encE] at hm
theorem flatE_np (l : List El) (j : Nat) (u : Value) (h : (flatE l)[j]? = some u) : ∀ p, u ≠ .pointer p := fun p e => by
  have hm := List.mem_of_getElem? h
  unfold flatE at hm
  obtain ⟨x, -, hx⟩ := List.mem_flatMap.1 hm
  obtain ⟨k, hk⟩ := List.mem_iff_getElem?.1 hx
  exact encE_np x k u hk p e
/-- Rows of elements do not lie in a map's box. -/
theorem Re.aside {w w' : World} {B : Nat} {p : Option Addr} {ao : Option Addr} {l : List El} (h : Re w ao l) (hw : w.heap[B]? = some (.cells #[.pointer p] 27 (0, 0))) (ho : Only (fun j => j = B) w w') : Re w' ao l := ⟨h.1, fun a ha j u hj => by
  have hc := h.2 a ha j u hj
  generalize a.add j = A at hc ⊢
  by_cases hb : A.block = B
  · exfalso
    have hsp := World.cell?_spot hc
    obtain ⟨bb, oo, sp⟩ := A
    simp only at hb hsp
    subst hb hsp
    rw [cell_of_row _ _ oo _ 27 (0, 0) hw] at hc
    have hm : u = .pointer p := by
      have := Array.mem_of_getElem? hc
      simpa using this
    exact flatE_np l j u hj p hm
  · exact ho.cell hc hb⟩
theorem Boxd.aside {w w' : World} {B C : Nat} {pt p : Option Addr} {t : Pm.T} (h : Boxd w B pt t) (hw : w.heap[C]? = some (.cells #[.pointer p] 27 (0, 0))) (ho : Only (fun j => j = C) w w') (hne : B ≠ C) : Boxd w' B pt t := ⟨(ho.block _ (Array.getElem?_eq_some_iff.1 h.1).1 hne).trans h.1, h.2.1, h.2.2.aside hw ho⟩
theorem turn_skip_op {P : Program} {md : Region.Mode} {ops : Array Oper} {Q : Exit → Act → World → Prop} {S : World → Prop} {i j : Nat} {oi oj : Oper} {di : Tmp} {OPi OPj : Op} {Ti Tj : TypeId} {v : Value} {fuel : Nat} {listed : Array Bool} {a : Act} {w wi wj : World}
    (hi : ops[i]? = some oi) (hdi : oi.dst = some di) (hoi : oi.op = OPi) (hti : oi.type = Ti) (hj : ops[j]? = some oj) (hdj : oj.dst = none) (hoj : oj.op = OPj) (htj : oj.type = Tj)
    (hr : Region.ready md ops listed = [i, j]) (hwi : Region.wanted oi (yielded ops a.tmps) = true) (hwj : Region.wanted oj (yielded ops a.tmps) = true)
    (hyi : (execOp a.eval { dst := none, op := OPi, type := Ti, pos := "", after := #[], guard := none }).run P w = .ok (.value v) wi)
    (hyj : (execOp a.eval { dst := none, op := OPj, type := Tj, pos := "", after := #[], guard := none }).run P w = .ok .skip wj)
    (hSi : S wi) (hSj : S wj)
    (h1 : wpAnyH P md ops Q S fuel (listed.setIfInBounds i true) (a.put (some di) v) wi) (h2 : wpAnyH P md ops Q S fuel (listed.setIfInBounds j true) a wj) : wpAnyH P md ops Q S (fuel + 1) listed a w := by
  refine wpAnyH_ready hr (by simp) (AllReadyH.cons hi (fun K hK => ?_) (AllReadyH.cons hj (fun K hK => ?_) AllReadyH.nil))
  · rw [if_pos hwi]
    unfold Oper.wp
    rw [exec_same a.eval oi hoi hti, hyi]
    show K (a.put oi.dst v) wi
    rw [hdi]
    exact hK.out _ _ hSi (fun _ => h1)
  · rw [if_pos hwj]
    unfold Oper.wp
    rw [exec_same a.eval oj hoj htj, hyj]
    show K (a.put oj.dst undef) wj
    rw [hdj]
    exact hK.out _ _ hSj (fun _ => h2)
theorem exec_bd53 {ev' : Operand → Value} {x y : Operand} {T : TypeId} {w : World} {s : St} {X : ByteArray} (hx : ev' x = svT s) (hy : ev' y = .string X) : (execOp ev' { dst := none, op := .build 53 #[(0, x), (1, y)], type := T, pos := "", after := #[], guard := none }).run Tryz.prog w = .ok (.value (ev (s, X))) w := by
  unfold execOp
  simp only [hx, hy, svT]
  go_simp
theorem numP (n : Int) (W : World) : Calls Tryz.prog 39 #[.int .i64 n] W fun e w' => e = .returned (.int .i64 n) ∧ w' = W := num35 n W
theorem lenP {w : World} {t : Pm.T} {pt : Option Addr} (h : Mg w t) (hp : t.ptr = .pointer pt) : Calls Tryz.prog 17 #[.agg #[.pointer pt]] w fun e w' => e = .returned (.int .i64 (t.n : Nat)) ∧ Below w.heap.size w w' := by
  have := Pm.mLen_any t w h.inn
  unfold Pm.mv at this
  rw [hp] at this
  exact this
set_option maxHeartbeats 16000000 in
set_option maxRecDepth 100000 in
theorem writes6 {w : World} {ao bo : Option Addr} {c d : Nat} (l ws : List El) (h : Re w ao l) (k : Re w bo ws) (hs : ∀ x ∈ l, x.1.2.2.1.size ≤ 9223372036854775807) (ks : ∀ x ∈ ws, x.1.2.2.1.size ≤ 9223372036854775807) : Calls Tryz.prog 6 #[.slice ao l.length c, .slice bo ws.length d] w fun e w' => e = .returned (.bool true) ∧ Below w.heap.size w w' := by
  obtain ⟨N, hN⟩ : ∃ N, N = l.length := ⟨_, rfl⟩
  obtain ⟨M, hMM⟩ : ∃ M, M = ws.length := ⟨_, rfl⟩
  rw [← hN, ← hMM]
  by_cases h120 : 120 < N
  · have z1 : (120 : Int) < (N : Int) := by omega
    have z2 : decide (120 < N) = true := by simpa using h120
    clear h k hs ks hN hMM
    go_enter Tryz.func6, Tryz.ntmps6
    go_wp2_with (go_at_call 36; refine (known32 _).mono ?_; rintro e w1 ⟨rfl, b1⟩; have H1 := hide b1; clear b1; dsimp only)
    go_ret
    exact ⟨rfl, H1.out⟩
  · have z1 : ¬ (120 : Int) < (N : Int) := by omega
    have z2 : decide (120 < N) = false := by simpa using h120
    have hof := ofP (c := c) l h (by omega)
    rw [← hN] at hof
    have hmayE := mayE_good l
    have HL := hide (And.intro hN (And.intro hMM (And.intro h (And.intro k (And.intro hs (And.intro ks (And.intro hmayE h120)))))))
    by_cases hg : goodL l = true
    · rw [if_pos hg] at hof
      have HG := hide hg
      clear hN hMM h k hs ks hmayE h120 hg
      go_enter Tryz.func6, Tryz.ntmps6
      go_upto_region 4 with (go_at_call 37; refine hof.mono ?_; rintro e w1 ⟨t, pt, hpt, rfl, mg, hperm, -, b1⟩; have H1 := hide (And.intro hpt (And.intro mg (And.intro (els_srt HG.out (hperm HG.out) mg.srt) b1))); clear hpt mg hperm b1; dsimp only)
      obtain ⟨hpt, mg, ⟨hmay, hels⟩, b1⟩ := H1.out
      obtain ⟨B5, hB5⟩ : ∃ q, q = w1.heap.size := ⟨_, rfl⟩
      obtain ⟨W1, hW1⟩ : ∃ q, q = w1.alloc (.cells #[.pointer pt] 27) := ⟨_, rfl⟩
      have b31 : Below w1.heap.size w1 W1 := by rw [hW1]; exact (Below.refl _ w1).alloc (Nat.le_refl _) _
      have BX1 : Boxd W1 B5 pt t := ⟨by rw [hW1, hB5]; exact heap_alloc_new w1 _, hpt, mg.below b31⟩
      have bW1 : Below w.heap.size w W1 := b1.trans (b31.mono b1.size)
      have hB5w : w.heap.size ≤ B5 := by rw [hB5]; exact b1.size
      rw [← hW1, ← hB5]
      have hmy := refMay12 (c := c) l (HL.out.2.2.1.below bW1) (by have := HL.out; omega) HL.out.2.2.2.2.1
      rw [← HL.out.1, HL.out.2.2.2.2.2.2.1, HG.out] at hmy
      have HT := hide (And.intro BX1 (And.intro hmay (And.intro hels (And.intro bW1 hB5w))))
      clear H1 hpt mg hmay hels b1 hB5 hW1 b31 BX1 bW1 hB5w hof
      go_upto_region 6 with (go_at_call 38; refine hmy.mono ?_; rintro e W2 ⟨rfl, b2⟩; have HT2 := hide (And.intro (HT.out.1.below b2) (HT.out.2.2.2.1.trans (b2.mono HT.out.2.2.2.1.size))); clear b2 hmy; dsimp only)
      have BX := HT2.out.1
      have bW2 := HT2.out.2
      have hsort : ∀ W, Below W2.heap.size W2 W → Calls Tryz.prog 40 #[.slice ao N c] W fun e w' => ∃ a8 c8, e = .returned (.slice a8 N c8) ∧ Re w' a8 (srtE l) ∧ Below W.heap.size W w' := fun W hW => by
        have := refSorted12 (c := c) l (HL.out.2.2.1.below (bW2.trans (hW.mono bW2.size))) (by have := HL.out; omega) (by rw [HL.out.2.2.2.2.2.2.1]; exact HG.out)
        rw [← HL.out.1] at this
        exact this.mono (fun e w' ⟨a8, c8, he, ho, hb⟩ => ⟨a8, c8, he, ho.re, hb⟩)
      go_cut [7, 8] (fun v7 v8 wc => ∃ B7 a8 c8, v7 = .pointer (some ⟨B7, 0, none⟩) ∧ v8 = .slice a8 N c8 ∧ Hid (wc.heap[B7]? = some (.cells #[.pointer pt] 27 (0, 0)) ∧ Re wc a8 (srtE l) ∧ Below W2.heap.size W2 wc ∧ W2.heap.size ≤ B7))
      case first =>
        clear HT HT2 bW2
        refine wp_region_held_drew (S := fun w' => Below W2.heap.size W2 w') (by kernel_rfl) (by exact drew_below W2) (fun hHeld => ?_)
        try dsimp only at hHeld
        generalize W2.drew = Wd at hHeld ⊢
        refine take_op (i := 0) (d := 37) (OP := Op.load 27 (Operand.tmp 5)) (T := 27) (v := .agg #[.pointer pt]) rfl rfl rfl rfl (by kernel_rfl) (by kernel_rfl) (by kernel_rfl) (fun _ _ _ h => h) (by rfl) ?hzw9 hHeld ?rzw9
        case hzw9 => (intro w' hSw; (try dsimp only at hSw); have lc := cell_stays BX.cell hSw; go_simp)
        try simp only [Act.put, List.setIfInBounds_toArray, List.set_cons_zero, List.set_cons_succ]
        refine take_op (i := 1) (d := 38) (OP := Op.move (Operand.tmp 0)) (T := 22) (v := ?vzw10) rfl rfl rfl rfl (by kernel_rfl) (by kernel_rfl) (by kernel_rfl) (fun _ _ _ h => h) (by rfl) ?hzw10 hHeld ?rzw10
        case hzw10 => (intro w' hSw; (try dsimp only at hSw); go_simp <;> with_reducible rfl)
        try simp only [Act.put, List.setIfInBounds_toArray, List.set_cons_zero, List.set_cons_succ]
        obtain ⟨y1, ey1⟩ : ∃ q, q = Wd.alloc (.cells #[.pointer none] 27) := ⟨_, rfl⟩
        have by1 : Below Wd.heap.size Wd y1 := by rw [ey1]; exact (Below.refl _ Wd).alloc (Nat.le_refl _) _
        have ry1 : y1.heap[Wd.heap.size]? = some (.cells #[.pointer none] 27 (0, 0)) := by rw [ey1]; exact heap_alloc_new Wd _
        have hy1 := hHeld.trans (by1.mono hHeld.size)
        refine call_turn_op (i := 2) (di := 39) (OPi := Op.call { callee := Callee.value (Operand.func 40), args := #[Operand.tmp 38], argTypes := #[22] }) (Ti := 22) (j := 3) (dj := 7) (OPj := Op.alloc 27) (Tj := 0) (f := 40) (args := #[.slice ao N c]) (u := .pointer (some ⟨Wd.heap.size, 0, none⟩)) (w' := y1) rfl rfl rfl rfl rfl rfl rfl rfl (by kernel_rfl) (by rfl) (by rfl) (by go_simp) (by rw [ey1]; exact exec_al27 Wd) hy1 ?_ ?_
        · refine (hsort _ hHeld).mono ?_
          rintro e z1 ⟨a8, c8, rfl, re8, bz⟩
          have hz1 := hHeld.trans (bz.mono hHeld.size)
          refine ⟨_, rfl, hz1, ?_⟩
          try simp only [Act.put, List.setIfInBounds_toArray, List.set_cons_zero, List.set_cons_succ]
          obtain ⟨z2, ez2⟩ : ∃ q, q = z1.alloc (.cells #[.pointer none] 27) := ⟨_, rfl⟩
          have bz2 : Below z1.heap.size z1 z2 := by rw [ez2]; exact (Below.refl _ z1).alloc (Nat.le_refl _) _
          have r9 : z2.heap[z1.heap.size]? = some (.cells #[.pointer none] 27 (0, 0)) := by rw [ez2]; exact heap_alloc_new z1 _
          have h9 := hz1.trans (bz2.mono hz1.size)
          refine turn_op (i := 3) (d := 7) (OP := Op.alloc 27) (T := 0) (v := .pointer (some ⟨z1.heap.size, 0, none⟩)) (w' := z2) rfl rfl rfl rfl (by kernel_rfl) (by rfl) (by rw [ez2]; exact exec_al27 z1) h9 ?_
          try simp only [Act.put, List.setIfInBounds_toArray, List.set_cons_zero, List.set_cons_succ]
          have re9 := re8.below bz2
          have hzs := hz1.size
          clear re8 bz2 ez2 bz by1 ry1 hy1 ey1
          obtain ⟨Bx, hBx⟩ : ∃ q, q = z1.heap.size := ⟨_, rfl⟩
          rw [← hBx] at r9 hzs ⊢
          replace hHeld : Below W2.heap.size W2 Wd ∧ W2.heap.size ≤ Bx := ⟨hHeld, hzs⟩
          clear hBx hzs hz1
          obtain ⟨u9, o9⟩ := set_one (i := 0) (.pointer pt) r9
          have hM9 : Below W2.heap.size W2 (z2.setCell ⟨Bx, 0, none⟩ (.pointer pt)) := Below.only h9 o9 h9.size (fun j e => by have e' : j = Bx := e; have := hHeld.2; omega)
          refine skip_op (i := 4) (OP := Op.store 27 (Operand.tmp 7) (Operand.tmp 37)) (T := 0) (w' := z2.setCell ⟨Bx, 0, none⟩ (.pointer pt)) rfl rfl rfl rfl (by kernel_rfl) (by rfl) (exec_st27 rfl rfl ((cell_of_row _ _ 0 _ 27 (0, 0) r9).trans rfl) (frozen_of_row _ _ 0 _ 27 r9)) ⟨hM9, ?_⟩
          try simp only [Act.put, List.setIfInBounds_toArray, List.set_cons_zero, List.set_cons_succ]
          refine take_op (i := 5) (d := 8) (OP := Op.assign (Operand.tmp 39)) (T := 22) (v := ?vzw11) rfl rfl rfl rfl (by kernel_rfl) (by kernel_rfl) (by kernel_rfl) (fun _ _ _ h => h) (by rfl) ?hzw11 hM9 ?rzw11
          case hzw11 => (intro w' hSw; (try dsimp only at hSw); go_simp <;> with_reducible rfl)
          try simp only [Act.put, List.setIfInBounds_toArray, List.set_cons_zero, List.set_cons_succ]
          refine wpAnyH_done (by kernel_rfl) ?_ _
          have HE : Hid ((z2.setCell ⟨Bx, 0, none⟩ (.pointer pt)).heap[Bx]? = some (.cells #[.pointer pt] 27 (0, 0)) ∧ Re (z2.setCell ⟨Bx, 0, none⟩ (.pointer pt)) a8 (srtE l) ∧ Below W2.heap.size W2 (z2.setCell ⟨Bx, 0, none⟩ (.pointer pt)) ∧ W2.heap.size ≤ Bx) := hide ⟨by simpa using u9, re9.aside r9 o9, hM9, hHeld.2⟩
          clear u9 o9 hM9 h9 r9 re9 hHeld
          go_wp2
          go_meet
          exact ⟨Bx, a8, c8, rfl, rfl, HE⟩
        · try simp only [Act.put, List.setIfInBounds_toArray, List.set_cons_zero, List.set_cons_succ]
          refine call_op (i := 2) (d := 39) (OP := Op.call { callee := Callee.value (Operand.func 40), args := #[Operand.tmp 38], argTypes := #[22] }) (T := 22) (f := 40) (args := #[.slice ao N c]) rfl rfl rfl rfl (by kernel_rfl) (by rfl) (by go_simp) ?_
          refine (hsort _ hy1).mono ?_
          rintro e z2 ⟨a8, c8, rfl, re9, bz⟩
          have h9 := hy1.trans (bz.mono hy1.size)
          refine ⟨_, rfl, h9, ?_⟩
          try simp only [Act.put, List.setIfInBounds_toArray, List.set_cons_zero, List.set_cons_succ]
          have r9 := (bz.block _ (Array.getElem?_eq_some_iff.1 ry1).1).trans ry1
          have hzs := hHeld.size
          clear bz by1 ry1 hy1 ey1
          obtain ⟨Bx, hBx⟩ : ∃ q, q = Wd.heap.size := ⟨_, rfl⟩
          rw [← hBx] at r9 hzs ⊢
          replace hHeld : Below W2.heap.size W2 Wd ∧ W2.heap.size ≤ Bx := ⟨hHeld, hzs⟩
          clear hBx hzs
          obtain ⟨u9, o9⟩ := set_one (i := 0) (.pointer pt) r9
          have hM9 : Below W2.heap.size W2 (z2.setCell ⟨Bx, 0, none⟩ (.pointer pt)) := Below.only h9 o9 h9.size (fun j e => by have e' : j = Bx := e; have := hHeld.2; omega)
          refine skip_op (i := 4) (OP := Op.store 27 (Operand.tmp 7) (Operand.tmp 37)) (T := 0) (w' := z2.setCell ⟨Bx, 0, none⟩ (.pointer pt)) rfl rfl rfl rfl (by kernel_rfl) (by rfl) (exec_st27 rfl rfl ((cell_of_row _ _ 0 _ 27 (0, 0) r9).trans rfl) (frozen_of_row _ _ 0 _ 27 r9)) ⟨hM9, ?_⟩
          try simp only [Act.put, List.setIfInBounds_toArray, List.set_cons_zero, List.set_cons_succ]
          refine take_op (i := 5) (d := 8) (OP := Op.assign (Operand.tmp 39)) (T := 22) (v := ?vzw12) rfl rfl rfl rfl (by kernel_rfl) (by kernel_rfl) (by kernel_rfl) (fun _ _ _ h => h) (by rfl) ?hzw12 hM9 ?rzw12
          case hzw12 => (intro w' hSw; (try dsimp only at hSw); go_simp <;> with_reducible rfl)
          try simp only [Act.put, List.setIfInBounds_toArray, List.set_cons_zero, List.set_cons_succ]
          refine wpAnyH_done (by kernel_rfl) ?_ _
          have HE : Hid ((z2.setCell ⟨Bx, 0, none⟩ (.pointer pt)).heap[Bx]? = some (.cells #[.pointer pt] 27 (0, 0)) ∧ Re (z2.setCell ⟨Bx, 0, none⟩ (.pointer pt)) a8 (srtE l) ∧ Below W2.heap.size W2 (z2.setCell ⟨Bx, 0, none⟩ (.pointer pt)) ∧ W2.heap.size ≤ Bx) := hide ⟨by simpa using u9, re9.aside r9 o9, hM9, hHeld.2⟩
          clear u9 o9 hM9 h9 r9 re9 hHeld
          go_wp2
          go_meet
          exact ⟨Bx, a8, c8, rfl, rfl, HE⟩
      case rest =>
        obtain ⟨B7, a8, c8, rfl, rfl, HC⟩ := hcut
        have hst : Boxd wc B5 pt t ∧ Boxd wc B7 pt t ∧ Re wc a8 (srtE l) ∧ Below w.heap.size w wc ∧ w.heap.size ≤ B5 ∧ B5 ≠ B7 := by
          obtain ⟨q1, q2, q3, q4⟩ := HC.out
          have hB := BX.below q3
          refine ⟨hB, ⟨q1, BX.2.1, hB.2.2⟩, q2, bW2.trans (q3.mono bW2.size), HT.out.2.2.2.2, fun e => ?_⟩
          have := (Array.getElem?_eq_some_iff.1 BX.1).1
          omega
        have HST := hide hst
        have HMY := hide (And.intro HT.out.2.1 HT.out.2.2.1)
        have cM : wc.cell? ⟨B5, 0, none⟩ = some (.pointer pt) := hst.1.cell
        have hsd := stands41 (c := c8) hst.1.2.2 BX.2.1 HMY.out.1 HMY.out.2.symm hst.2.2.1
        rw [srtE_len, ← HL.out.1] at hsd
        clear HT HT2 BX bW2 hsort HC hst
        go_upto_region 10 with (first
          | (go_at_call 39; refine (numP _ _).mono ?_; rintro e wn ⟨rfl, rfl⟩; dsimp only)
          | (go_at_call 41; refine hsd.mono ?_; rintro e w5 ⟨rfl, b5⟩; replace HST := hide (And.intro (HST.out.1.below b5) (And.intro (HST.out.2.1.below b5) (And.intro (HST.out.2.2.1.below b5) (And.intro (HST.out.2.2.2.1.trans (b5.mono HST.out.2.2.2.1.size)) HST.out.2.2.2.2)))); clear b5; dsimp only))
        clear hsd cM
        go_wp2
        go_loopw [9, 10] (fun v9 v10 wr => ∃ (i : Nat) (tc : Pm.T) (pc : Option Addr) (lc : List El) (K : Nat) (a9 : Option Addr) (c9 : Nat), v9 = .slice a9 K c9 ∧ v10 = .int .i64 i ∧ i ≤ M ∧ Hid (Boxd wr B5 pc tc ∧ mayL tc.list = true ∧ lc = elsL tc.list ∧ Re wr a9 lc ∧ K = lc.length ∧ Boxd wr B7 pt t ∧ Re wr a8 (srtE l) ∧ Below w.heap.size w wr)) (fun _ v10 _ => M - (intOf v10).toNat)
        case atStart => exact ⟨0, t, pt, srtE l, N, a8, c8, rfl, rfl, Nat.zero_le _, hide ⟨HST.out.1, HMY.out.1, HMY.out.2.symm, HST.out.2.2.1, by rw [srtE_len]; exact HL.out.1, HST.out.2.1, HST.out.2.2.1, HST.out.2.2.2.1⟩⟩
        case round =>
          obtain ⟨i, tc, pc, lc, K, a9, c9, rfl, rfl, hi, HI⟩ := hrel
          by_cases hgo : i < M ∧ i < 60
          · have y1 : (i : Int) < (M : Int) := by omega
            have y2 : decide (i < M) = true := by simpa using hgo.1
            have y3 : (i : Int) < 60 := by omega
            have y4 : decide (i < 60) = true := by simpa using hgo.2
            obtain ⟨x, hx⟩ : ∃ x, ws[i]? = some x := ⟨_, List.getElem?_eq_getElem (by rw [← HL.out.2.1]; exact hgo.1)⟩
            have hxs := HL.out.2.2.2.2.2.1 x (List.mem_of_getElem? hx)
            obtain ⟨b, off, hbo, q0, q1, q2, q3, q4, q5⟩ := (HL.out.2.2.2.1.below HI.out.2.2.2.2.2.2.2).cells hx
            obtain ⟨s, X⟩ := x
            have hwr := fun W (hW : Mg W tc) => writeP s X hW HI.out.1.2.1
            rw [okWr_doc HI.out.2.1 s X, ← HI.out.2.2.1] at hwr
            have hft := fun W => fits39 s X W hxs
            have hbh := fun W (hW : Re W a9 lc) => behind12 (c := c9) lc s hW (by have h1 := HI.out.1.2.2.few; rw [HI.out.2.2.1, elsL, if_pos HI.out.2.1]; simp [elsM]; rw [Pm.T.n_eq]; omega) (fun x hx => okEl_size (els_ok HI.out.2.1 x (by rw [← HI.out.2.2.1]; exact hx)))
            rw [← HI.out.2.2.2.2.1] at hbh
            obtain ⟨g, r, lb, n, ix⟩ := s
            dsimp only at q0 q1 q2 q3 q4 q5 hxs
            obtain ⟨FT, hFT⟩ : ∃ q, q = (stV (g, r, lb, n, ix) && txtB X) := ⟨_, rfl⟩
            obtain ⟨BH, hBH⟩ : ∃ q, q = behB lc (g, r, lb, n, ix) := ⟨_, rfl⟩
            rw [← hFT, ← hBH] at hwr
            rw [← hFT] at hft
            rw [← hBH] at hbh
            have HF := hide (And.intro hFT hBH)
            have HBO := hide hbo
            subst hbo
            dsimp only [svT, sv] at hwr hft hbh
            obtain ⟨Wx, hWx⟩ : ∃ q, q = wr.alloc (.cells #[.int .i64 g, .int .i64 r, .string lb, .int .i64 n, .int .i64 ix, .string X] 78) := ⟨_, rfl⟩
            have m := heap_alloc_new wr (.cells #[.int .i64 g, .int .i64 r, .string lb, .int .i64 n, .int .i64 ix, .string X] 78)
            have bx : Below wr.heap.size wr (wr.alloc (.cells #[.int .i64 g, .int .i64 r, .string lb, .int .i64 n, .int .i64 ix, .string X] 78)) := (Below.refl _ wr).alloc (Nat.le_refl _) _
            rw [← hWx] at m bx
            obtain ⟨Bw, hBw⟩ : ∃ q, q = wr.heap.size := ⟨_, rfl⟩
            rw [← hBw] at m
            have HWX := hide (And.intro hWx hBw)
            have HCX : Hid (∀ W, Below Wx.heap.size Wx W → W.cell? ⟨Bw, 0, none⟩ = some (.int .i64 g) ∧ W.cell? ⟨Bw, 1, none⟩ = some (.int .i64 r) ∧ W.cell? ⟨Bw, 2, none⟩ = some (.string lb) ∧ W.cell? ⟨Bw, 3, none⟩ = some (.int .i64 n) ∧ W.cell? ⟨Bw, 4, none⟩ = some (.int .i64 ix) ∧ W.cell? ⟨Bw, 5, none⟩ = some (.string X) ∧ W.cell? ⟨B5, 0, none⟩ = some (.pointer pc) ∧ Below wr.heap.size wr W) := hide (fun W hW => ⟨cell_stays ((cell_of_row _ _ 0 _ 78 (0, 0) m).trans rfl) hW, cell_stays ((cell_of_row _ _ 1 _ 78 (0, 0) m).trans rfl) hW, cell_stays ((cell_of_row _ _ 2 _ 78 (0, 0) m).trans rfl) hW, cell_stays ((cell_of_row _ _ 3 _ 78 (0, 0) m).trans rfl) hW, cell_stays ((cell_of_row _ _ 4 _ 78 (0, 0) m).trans rfl) hW, cell_stays ((cell_of_row _ _ 5 _ 78 (0, 0) m).trans rfl) hW, cell_stays (cell_stays HI.out.1.cell bx) hW, bx.trans (hW.mono bx.size)⟩)
            have HX := hide hx
            clear hx hxs hFT hBH hWx hBw m bx
            go_upto_region 14 with fail
            rw [← HWX.out.1, ← HWX.out.2]
            clear q0 q1 q2 q3 q4 q5
            obtain ⟨x0, x1, x2, x3, x4, x5, x6, -⟩ := HCX.out Wx (Below.refl _ _)
            have mgx := HI.out.1.2.2.below (HCX.out Wx (Below.refl _ _)).2.2.2.2.2.2.2
            cases FT with
            | false =>
              clear hbh
              have hwr' := hwr Wx mgx
              rw [if_neg (by simp)] at hwr'
              go_upto_region 15 with (go_at_call 42; refine hwr'.mono ?_; rintro e w2 ⟨tn, pn, hpn, rfl, mgn, hln, b2⟩; have H2 := hide (And.intro hpn (And.intro mgn (And.intro hln b2))); clear hpn mgn hln b2; dsimp only)
              obtain ⟨hpn, mgn, hln, b2⟩ := H2.out
              obtain ⟨Bn, hBn⟩ : ∃ q, q = w2.heap.size := ⟨_, rfl⟩
              obtain ⟨W3, hW3⟩ : ∃ q, q = w2.alloc (.cells #[.pointer pn] 27) := ⟨_, rfl⟩
              have b23 : Below w2.heap.size w2 W3 := by rw [hW3]; exact (Below.refl _ w2).alloc (Nat.le_refl _) _
              have BXn : Boxd W3 Bn pn tn := ⟨by rw [hW3, hBn]; exact heap_alloc_new w2 _, hpn, mgn.below b23⟩
              have bb3 : Below Wx.heap.size Wx W3 := b2.trans (b23.mono b2.size)
              rw [← hW3, ← hBn]
              clear x0 x1 x2 x3 x4 x5 x6
              obtain ⟨x0, x1, x2, x3, x4, x5, x6, -⟩ := HCX.out W3 bb3
              have hn0 : tn.n = 0 := by rw [← Pm.T.n_eq, hln]; rfl
              have H14 := hide (And.intro BXn (And.intro hn0 bb3))
              have cN := BXn.cell
              clear H2 hpn mgn hln b2 hBn hW3 b23 BXn bb3 hn0 hwr hwr' mgx
              go_wp2_with (first
                | (go_at_call 43; refine (hft _).mono ?_; rintro e w4 ⟨rfl, b4⟩; have cN4 := cell_stays H14.out.1.cell b4; have H4 := hide (And.intro (H14.out.1.below b4) (And.intro H14.out.2.1 (H14.out.2.2.trans (b4.mono H14.out.2.2.size)))); clear b4; dsimp only)
                | (go_at_call 39; refine (numP _ _).mono ?_; rintro e wn ⟨rfl, rfl⟩; dsimp only)
                | (go_at_call 17; have hlen := lenP H4.out.1.2.2 H4.out.1.2.1; rw [H4.out.2.1] at hlen; refine hlen.mono ?_; rintro e w5 ⟨rfl, b5⟩; have H5 := hide (H4.out.2.2.trans (b5.mono H4.out.2.2.size)); clear b5; dsimp only))
              have hbF := (HCX.out _ H5.out).2.2.2.2.2.2.2
              have HN := hide hbF
              go_roundw
              case rel => exact ⟨i + 1, tc, pc, lc, K, a9, c9, rfl, by go_num, by omega, hide ⟨HI.out.1.below HN.out, HI.out.2.1, HI.out.2.2.1, HI.out.2.2.2.1.below HN.out, HI.out.2.2.2.2.1, HI.out.2.2.2.2.2.1.below HN.out, HI.out.2.2.2.2.2.2.1.below HN.out, HI.out.2.2.2.2.2.2.2.trans (HN.out.mono HI.out.2.2.2.2.2.2.2.size)⟩⟩
              case measure => simp [intOf]; omega
            | true =>
              cases BH with
              | false =>
                have hwr' := hwr Wx mgx
                rw [if_neg (by simp)] at hwr'
                go_upto_region 15 with (go_at_call 42; refine hwr'.mono ?_; rintro e w2 ⟨tn, pn, hpn, rfl, mgn, hln, b2⟩; have H2 := hide (And.intro hpn (And.intro mgn (And.intro hln b2))); clear hpn mgn hln b2; dsimp only)
                obtain ⟨hpn, mgn, hln, b2⟩ := H2.out
                obtain ⟨Bn, hBn⟩ : ∃ q, q = w2.heap.size := ⟨_, rfl⟩
                obtain ⟨W3, hW3⟩ : ∃ q, q = w2.alloc (.cells #[.pointer pn] 27) := ⟨_, rfl⟩
                have b23 : Below w2.heap.size w2 W3 := by rw [hW3]; exact (Below.refl _ w2).alloc (Nat.le_refl _) _
                have BXn : Boxd W3 Bn pn tn := ⟨by rw [hW3, hBn]; exact heap_alloc_new w2 _, hpn, mgn.below b23⟩
                have bb3 : Below Wx.heap.size Wx W3 := b2.trans (b23.mono b2.size)
                rw [← hW3, ← hBn]
                clear x0 x1 x2 x3 x4 x5 x6
                obtain ⟨x0, x1, x2, x3, x4, x5, x6, -⟩ := HCX.out W3 bb3
                have hn0 : tn.n = 0 := by rw [← Pm.T.n_eq, hln]; rfl
                have H14 := hide (And.intro BXn (And.intro hn0 bb3))
                have cN := BXn.cell
                clear H2 hpn mgn hln b2 hBn hW3 b23 BXn bb3 hn0 hwr hwr' mgx
                go_wp2_with (first
                  | (go_at_call 43; refine (hft _).mono ?_; rintro e w4 ⟨rfl, b4⟩; have bb4 := H14.out.2.2.trans (b4.mono H14.out.2.2.size); obtain ⟨u0, u1, u2, u3, u4, -, -, bu⟩ := HCX.out w4 bb4; have hbh4 := hbh w4 (HI.out.2.2.2.1.below bu); have cN4 := cell_stays H14.out.1.cell b4; have H4 := hide (And.intro (H14.out.1.below b4) (And.intro H14.out.2.1 bb4)); clear b4 bb4 bu; dsimp only)
                  | (go_at_call 44; refine hbh4.mono ?_; rintro e w6 ⟨rfl, b6⟩; have cN6 := cell_stays H4.out.1.cell b6; replace H4 := hide (And.intro (H4.out.1.below b6) (And.intro H4.out.2.1 (H4.out.2.2.trans (b6.mono H4.out.2.2.size)))); clear b6; dsimp only)
                  | (go_at_call 39; refine (numP _ _).mono ?_; rintro e wn ⟨rfl, rfl⟩; dsimp only)
                  | (go_at_call 17; have hlen := lenP H4.out.1.2.2 H4.out.1.2.1; rw [H4.out.2.1] at hlen; refine hlen.mono ?_; rintro e w5 ⟨rfl, b5⟩; have H5 := hide (H4.out.2.2.trans (b5.mono H4.out.2.2.size)); clear b5; dsimp only))
                have hbF := (HCX.out _ H5.out).2.2.2.2.2.2.2
                have HN := hide hbF
                go_roundw
                case rel => exact ⟨i + 1, tc, pc, lc, K, a9, c9, rfl, by go_num, by omega, hide ⟨HI.out.1.below HN.out, HI.out.2.1, HI.out.2.2.1, HI.out.2.2.2.1.below HN.out, HI.out.2.2.2.2.1, HI.out.2.2.2.2.2.1.below HN.out, HI.out.2.2.2.2.2.2.1.below HN.out, HI.out.2.2.2.2.2.2.2.trans (HN.out.mono HI.out.2.2.2.2.2.2.2.size)⟩⟩
                case measure => simp [intOf]; omega
              | true =>
                have hwr' := hwr Wx mgx
                rw [if_pos (by simp), if_pos (by simp)] at hwr'
                go_upto_region 15 with (go_at_call 42; refine hwr'.mono ?_; rintro e w2 ⟨tn, pn, hpn, rfl, mgn, hln, b2⟩; have H2 := hide (And.intro hpn (And.intro mgn (And.intro hln b2))); clear hpn mgn hln b2; dsimp only)
                obtain ⟨hpn, mgn, hln, b2⟩ := H2.out
                obtain ⟨Bn, hBn⟩ : ∃ q, q = w2.heap.size := ⟨_, rfl⟩
                obtain ⟨W3, hW3⟩ : ∃ q, q = w2.alloc (.cells #[.pointer pn] 27) := ⟨_, rfl⟩
                have b23 : Below w2.heap.size w2 W3 := by rw [hW3]; exact (Below.refl _ w2).alloc (Nat.le_refl _) _
                have BXn : Boxd W3 Bn pn tn := ⟨by rw [hW3, hBn]; exact heap_alloc_new w2 _, hpn, mgn.below b23⟩
                have bb3 : Below Wx.heap.size Wx W3 := b2.trans (b23.mono b2.size)
                rw [← hW3, ← hBn]
                clear x0 x1 x2 x3 x4 x5 x6
                obtain ⟨x0, x1, x2, x3, x4, x5, x6, -⟩ := HCX.out W3 bb3
                have hfit : mayL tn.list = true ∧ elsL tn.list = [((g, r, lb, n, ix), X)] := by
                  have hf := HF.out.1
                  have hf2 := (Bool.and_eq_true _ _ ▸ hf.symm : stV (g, r, lb, n, ix) = true ∧ txtB X = true)
                  rw [hln]
                  exact els_one hf2.1 hf2.2
                have hfar : wr.heap.size ≤ Bn := by have h1 := (HCX.out Wx (Below.refl _ _)).2.2.2.2.2.2.2.size; have h2 := b2.size; omega
                have H14 := hide (And.intro BXn (And.intro (And.intro hfit.1 (And.intro hfit.2 (And.intro trivial hfar))) bb3))
                have cN := BXn.cell
                clear H2 hpn mgn hln b2 hBn hW3 b23 BXn bb3 hfit hfar hwr hwr' mgx
                go_upto_region 18 with (first
                  | (go_at_call 43; refine (hft _).mono ?_; rintro e w4 ⟨rfl, b4⟩; have bb4 := H14.out.2.2.trans (b4.mono H14.out.2.2.size); obtain ⟨u0, u1, u2, u3, u4, -, -, bu⟩ := HCX.out w4 bb4; have hbh4 := hbh w4 (HI.out.2.2.2.1.below bu); have H4 := hide (And.intro (H14.out.1.below b4) (And.intro H14.out.2.1 bb4)); clear b4 bb4 bu; dsimp only)
                  | (go_at_call 44; refine hbh4.mono ?_; rintro e W6 ⟨rfl, b6⟩; have H6 := hide (And.intro (H4.out.1.below b6) (And.intro H4.out.2.1 (H4.out.2.2.trans (b6.mono H4.out.2.2.size)))); clear b6; dsimp only))
                clear hft hbh hbh4 u0 u1 u2 u3 u4 x0 x1 x2 x3 x4 x5 x6 cN
                have H7 : Hid (Boxd W6 Bn pn tn ∧ Boxd W6 B5 pc tc ∧ Boxd W6 B7 pt t ∧ Re W6 a8 (srtE l) ∧ Below w.heap.size w W6 ∧ w.heap.size ≤ B5 ∧ B5 ≠ B7 ∧ B5 ≠ Bn ∧ B5 ≠ Bw) := hide (by
                  obtain ⟨q1, q2, q3⟩ := H6.out
                  have bw6 := (HCX.out W6 q3).2.2.2.2.2.2.2
                  have h5 := (Array.getElem?_eq_some_iff.1 HI.out.1.1).1
                  refine ⟨q1, HI.out.1.below bw6, HI.out.2.2.2.2.2.1.below bw6, HI.out.2.2.2.2.2.2.1.below bw6, HI.out.2.2.2.2.2.2.2.trans (bw6.mono HI.out.2.2.2.2.2.2.2.size), HST.out.2.2.2.2.1, HST.out.2.2.2.2.2, ?_, ?_⟩
                  · intro e
                    have := H14.out.2.1.2.2.2
                    have := (HWX.out.2)
                    omega
                  · intro e
                    have := HWX.out.2
                    omega)
                go_cut [9] (fun v9 wc => ∃ Bs, v9 = .slice (some ⟨Bs, 0, none⟩) 1 1 ∧ Hid (Boxd wc B5 pn tn ∧ Re wc (some ⟨Bs, 0, none⟩) [((g, r, lb, n, ix), X)] ∧ Boxd wc B7 pt t ∧ Re wc a8 (srtE l) ∧ Below w.heap.size w wc))
                case first =>
                  have hS6 : ∀ W, Below W6.heap.size W6 W → W.cell? ⟨Bw, 0, none⟩ = some (.int .i64 g) ∧ W.cell? ⟨Bw, 1, none⟩ = some (.int .i64 r) ∧ W.cell? ⟨Bw, 2, none⟩ = some (.string lb) ∧ W.cell? ⟨Bw, 3, none⟩ = some (.int .i64 n) ∧ W.cell? ⟨Bw, 4, none⟩ = some (.int .i64 ix) ∧ W.cell? ⟨Bw, 5, none⟩ = some (.string X) ∧ W.cell? ⟨Bn, 0, none⟩ = some (.pointer pn) := fun W hW => by
                    have h6 := HCX.out W (H6.out.2.2.trans (hW.mono H6.out.2.2.size))
                    exact ⟨h6.1, h6.2.1, h6.2.2.1, h6.2.2.2.1, h6.2.2.2.2.1, h6.2.2.2.2.2.1, cell_stays H7.out.1.cell hW⟩
                  have HS6 := hide hS6
                  clear hS6
                  refine wp_region_held_drew (S := fun w' => w'.cell? ⟨Bw, 0, none⟩ = some (.int .i64 g) ∧ w'.cell? ⟨Bw, 1, none⟩ = some (.int .i64 r) ∧ w'.cell? ⟨Bw, 2, none⟩ = some (.string lb) ∧ w'.cell? ⟨Bw, 3, none⟩ = some (.int .i64 n) ∧ w'.cell? ⟨Bw, 4, none⟩ = some (.int .i64 ix) ∧ w'.cell? ⟨Bw, 5, none⟩ = some (.string X) ∧ w'.cell? ⟨Bn, 0, none⟩ = some (.pointer pn)) (by kernel_rfl) (by exact HS6.out _ (drew_below W6)) (fun hHeld => ?_)
                  try dsimp only at hHeld
                  have bWd : Below W6.heap.size W6 W6.drew := drew_below W6
                  generalize W6.drew = Wd at hHeld bWd ⊢
                  refine take_op (i := 0) (d := 94) (OP := Op.load 27 (Operand.tmp 12)) (T := 27) (v := ?vzw1) rfl rfl rfl rfl (by kernel_rfl) (by kernel_rfl) (by kernel_rfl) (fun _ _ _ h => h) (by rfl) ?hzw1 hHeld ?rzw1
                  case hzw1 => (intro w' hSw; (try dsimp only at hSw); go_simp <;> with_reducible rfl)
                  try simp only [Act.put, List.setIfInBounds_toArray, List.set_cons_zero, List.set_cons_succ]
                  refine take_op (i := 1) (d := 95) (OP := Op.fieldAddr 78 (Operand.tmp 11) 0) (T := 0) (v := ?vzw2) rfl rfl rfl rfl (by kernel_rfl) (by kernel_rfl) (by kernel_rfl) (fun _ _ _ h => h) (by rfl) ?hzw2 hHeld ?rzw2
                  case hzw2 => (intro w' hSw; (try dsimp only at hSw); go_simp <;> with_reducible rfl)
                  try simp only [Act.put, List.setIfInBounds_toArray, List.set_cons_zero, List.set_cons_succ]
                  refine take_op (i := 2) (d := 96) (OP := Op.load 43 (Operand.tmp 95)) (T := 43) (v := ?vzw3) rfl rfl rfl rfl (by kernel_rfl) (by kernel_rfl) (by kernel_rfl) (fun _ _ _ h => h) (by rfl) ?hzw3 hHeld ?rzw3
                  case hzw3 => (intro w' hSw; (try dsimp only at hSw); go_simp <;> with_reducible rfl)
                  try simp only [Act.put, List.setIfInBounds_toArray, List.set_cons_zero, List.set_cons_succ]
                  refine take_op (i := 3) (d := 97) (OP := Op.fieldAddr 78 (Operand.tmp 11) 1) (T := 0) (v := ?vzw4) rfl rfl rfl rfl (by kernel_rfl) (by kernel_rfl) (by kernel_rfl) (fun _ _ _ h => h) (by rfl) ?hzw4 hHeld ?rzw4
                  case hzw4 => (intro w' hSw; (try dsimp only at hSw); go_simp <;> with_reducible rfl)
                  try simp only [Act.put, List.setIfInBounds_toArray, List.set_cons_zero, List.set_cons_succ]
                  refine take_op (i := 4) (d := 98) (OP := Op.load 9 (Operand.tmp 97)) (T := 9) (v := ?vzw5) rfl rfl rfl rfl (by kernel_rfl) (by kernel_rfl) (by kernel_rfl) (fun _ _ _ h => h) (by rfl) ?hzw5 hHeld ?rzw5
                  case hzw5 => (intro w' hSw; (try dsimp only at hSw); go_simp <;> with_reducible rfl)
                  try simp only [Act.put, List.setIfInBounds_toArray, List.set_cons_zero, List.set_cons_succ]
                  refine take_op (i := 5) (d := 99) (OP := Op.build 53 #[(0, Operand.tmp 96), (1, Operand.tmp 98)]) (T := 53) (v := ev ((g, r, lb, n, ix), X)) rfl rfl rfl rfl (by kernel_rfl) (by kernel_rfl) (by kernel_rfl) (fun _ _ _ h => h) (by rfl) ?hzw6 hHeld ?rzw6
                  case hzw6 =>  (intro w' hSw; exact exec_bd53 rfl rfl)
                  try simp only [Act.put, List.setIfInBounds_toArray, List.set_cons_zero, List.set_cons_succ]
                  obtain ⟨y1, ey1⟩ : ∃ q, q = Wd.alloc (.cells (encE ((g, r, lb, n, ix), X)).toArray 53) := ⟨_, rfl⟩
                  have by1 : Below Wd.heap.size Wd y1 := by rw [ey1]; exact (Below.refl _ Wd).alloc (Nat.le_refl _) _
                  have hy1 := HS6.out y1 (bWd.trans (by1.mono bWd.size))
                  have r5 := (H7.out.2.1.below bWd).1
                  obtain ⟨u5, o5⟩ := set_one (i := 0) (.pointer pn) r5
                  have asd : ∀ W W', W.heap[B5]? = some (.cells #[.pointer pc] 27 (0, 0)) → Only (fun j => j = B5) W W' → W.cell? ⟨Bw, 0, none⟩ = some (.int .i64 g) ∧ W.cell? ⟨Bw, 1, none⟩ = some (.int .i64 r) ∧ W.cell? ⟨Bw, 2, none⟩ = some (.string lb) ∧ W.cell? ⟨Bw, 3, none⟩ = some (.int .i64 n) ∧ W.cell? ⟨Bw, 4, none⟩ = some (.int .i64 ix) ∧ W.cell? ⟨Bw, 5, none⟩ = some (.string X) ∧ W.cell? ⟨Bn, 0, none⟩ = some (.pointer pn) → W'.cell? ⟨Bw, 0, none⟩ = some (.int .i64 g) ∧ W'.cell? ⟨Bw, 1, none⟩ = some (.int .i64 r) ∧ W'.cell? ⟨Bw, 2, none⟩ = some (.string lb) ∧ W'.cell? ⟨Bw, 3, none⟩ = some (.int .i64 n) ∧ W'.cell? ⟨Bw, 4, none⟩ = some (.int .i64 ix) ∧ W'.cell? ⟨Bw, 5, none⟩ = some (.string X) ∧ W'.cell? ⟨Bn, 0, none⟩ = some (.pointer pn) := fun W W' hW ho hc => by
                    have h1 := H7.out.2.2.2.2.2.2.2
                    exact ⟨ho.cell hc.1 h1.2.symm, ho.cell hc.2.1 h1.2.symm, ho.cell hc.2.2.1 h1.2.symm, ho.cell hc.2.2.2.1 h1.2.symm, ho.cell hc.2.2.2.2.1 h1.2.symm, ho.cell hc.2.2.2.2.2.1 h1.2.symm, ho.cell hc.2.2.2.2.2.2 h1.1.symm⟩
                  have hsS := asd _ _ r5 o5 hHeld
                  refine turn_skip_op (i := 6) (di := 100) (OPi := Op.buildSlice 22 1 #[(0, Operand.tmp 99)]) (Ti := 22) (j := 7) (OPj := Op.store 27 (Operand.tmp 5) (Operand.tmp 94)) (Tj := 0) (v := .slice (some ⟨Wd.heap.size, 0, none⟩) 1 1) (wi := y1) (wj := Wd.setCell ⟨B5, 0, none⟩ (.pointer pn)) rfl rfl rfl rfl rfl rfl rfl rfl (by kernel_rfl) (by rfl) (by rfl) (by rw [ey1]; exact exec_bs53 rfl) (exec_st27 rfl rfl ((cell_of_row _ _ 0 _ 27 (0, 0) r5).trans rfl) (frozen_of_row _ _ 0 _ 27 r5)) hy1 hsS ?_ ?_
                  · try simp only [Act.put, List.setIfInBounds_toArray, List.set_cons_zero, List.set_cons_succ]
                    have r5' := (by1.block _ (Array.getElem?_eq_some_iff.1 r5).1).trans r5
                    obtain ⟨u6, o6⟩ := set_one (i := 0) (.pointer pn) r5'
                    have hz := asd _ _ r5' o6 hy1
                    refine skip_op (i := 7) (OP := Op.store 27 (Operand.tmp 5) (Operand.tmp 94)) (T := 0) (w' := y1.setCell ⟨B5, 0, none⟩ (.pointer pn)) rfl rfl rfl rfl (by kernel_rfl) (by rfl) (exec_st27 rfl rfl ((cell_of_row _ _ 0 _ 27 (0, 0) r5').trans rfl) (frozen_of_row _ _ 0 _ 27 r5')) ⟨hz, ?_⟩
                    try simp only [Act.put, List.setIfInBounds_toArray, List.set_cons_zero, List.set_cons_succ]
                    refine take_op (i := 8) (d := 9) (OP := Op.assign (Operand.tmp 100)) (T := 22) (v := ?vzw7) rfl rfl rfl rfl (by kernel_rfl) (by kernel_rfl) (by kernel_rfl) (fun _ _ _ h => h) (by rfl) ?hzw7 hz ?rzw7
                    case hzw7 => (intro w' hSw; (try dsimp only at hSw); go_simp <;> with_reducible rfl)
                    try simp only [Act.put, List.setIfInBounds_toArray, List.set_cons_zero, List.set_cons_succ]
                    refine wpAnyH_done (by kernel_rfl) ?_ _
                    have by6 := bWd.trans (by1.mono bWd.size)
                    have HE : Hid (Boxd (y1.setCell ⟨B5, 0, none⟩ (.pointer pn)) B5 pn tn ∧ Re (y1.setCell ⟨B5, 0, none⟩ (.pointer pn)) (some ⟨Wd.heap.size, 0, none⟩) [((g, r, lb, n, ix), X)] ∧ Boxd (y1.setCell ⟨B5, 0, none⟩ (.pointer pn)) B7 pt t ∧ Re (y1.setCell ⟨B5, 0, none⟩ (.pointer pn)) a8 (srtE l) ∧ Below w.heap.size w (y1.setCell ⟨B5, 0, none⟩ (.pointer pn))) := hide (by
                      obtain ⟨k1, k2, k3, k4, k5, k6, k7, k8, k9⟩ := H7.out
                      refine ⟨⟨by simpa using u6, k1.2.1, (k1.2.2.below by6).aside r5' o6⟩, Re.aside (by rw [ey1]; exact one_re Wd _) r5' o6, (k3.below by6).aside r5' o6 (fun e => k7 e.symm), (k4.below by6).aside r5' o6, ?_⟩
                      have hb := k5.trans (by6.mono k5.size)
                      exact Below.only hb o6 hb.size (fun j e => by have e' : j = B5 := e; omega))
                    clear u5 o5 u6 o6 r5 r5' hz hy1 hsS asd by1 by6 ey1 hHeld bWd HS6
                    go_wp2
                    go_meet
                    exact ⟨_, rfl, HE⟩
                  · try simp only [Act.put, List.setIfInBounds_toArray, List.set_cons_zero, List.set_cons_succ]
                    obtain ⟨Bz, hBz⟩ : ∃ q, q = (Wd.setCell ⟨B5, 0, none⟩ (.pointer pn)).heap.size := ⟨_, rfl⟩
                    have HBz := hide hBz
                    clear hBz
                    obtain ⟨y2, ey2⟩ : ∃ q, q = (Wd.setCell ⟨B5, 0, none⟩ (.pointer pn)).alloc (.cells (encE ((g, r, lb, n, ix), X)).toArray 53) := ⟨_, rfl⟩
                    have by2 : Below (Wd.setCell ⟨B5, 0, none⟩ (.pointer pn)).heap.size (Wd.setCell ⟨B5, 0, none⟩ (.pointer pn)) y2 := by rw [ey2]; exact (Below.refl _ _).alloc (Nat.le_refl _) _
                    have hz : y2.cell? ⟨Bw, 0, none⟩ = some (.int .i64 g) ∧ y2.cell? ⟨Bw, 1, none⟩ = some (.int .i64 r) ∧ y2.cell? ⟨Bw, 2, none⟩ = some (.string lb) ∧ y2.cell? ⟨Bw, 3, none⟩ = some (.int .i64 n) ∧ y2.cell? ⟨Bw, 4, none⟩ = some (.int .i64 ix) ∧ y2.cell? ⟨Bw, 5, none⟩ = some (.string X) ∧ y2.cell? ⟨Bn, 0, none⟩ = some (.pointer pn) := ⟨cell_stays hsS.1 by2, cell_stays hsS.2.1 by2, cell_stays hsS.2.2.1 by2, cell_stays hsS.2.2.2.1 by2, cell_stays hsS.2.2.2.2.1 by2, cell_stays hsS.2.2.2.2.2.1 by2, cell_stays hsS.2.2.2.2.2.2 by2⟩
                    refine turn_op (i := 6) (d := 100) (OP := Op.buildSlice 22 1 #[(0, Operand.tmp 99)]) (T := 22) (v := .slice (some ⟨Bz, 0, none⟩) 1 1) (w' := y2) rfl rfl rfl rfl (by kernel_rfl) (by rfl) (by rw [ey2, HBz.out]; exact exec_bs53 rfl) hz ?_
                    try simp only [Act.put, List.setIfInBounds_toArray, List.set_cons_zero, List.set_cons_succ]
                    refine take_op (i := 8) (d := 9) (OP := Op.assign (Operand.tmp 100)) (T := 22) (v := ?vzw8) rfl rfl rfl rfl (by kernel_rfl) (by kernel_rfl) (by kernel_rfl) (fun _ _ _ h => h) (by rfl) ?hzw8 hz ?rzw8
                    case hzw8 => (intro w' hSw; (try dsimp only at hSw); go_simp <;> with_reducible rfl)
                    try simp only [Act.put, List.setIfInBounds_toArray, List.set_cons_zero, List.set_cons_succ]
                    refine wpAnyH_done (by kernel_rfl) ?_ _
                    have HE : Hid (Boxd y2 B5 pn tn ∧ Re y2 (some ⟨Bz, 0, none⟩) [((g, r, lb, n, ix), X)] ∧ Boxd y2 B7 pt t ∧ Re y2 a8 (srtE l) ∧ Below w.heap.size w y2) := hide (by
                      obtain ⟨k1, k2, k3, k4, k5, k6, k7, k8, k9⟩ := H7.out
                      have hb := k5.trans (bWd.mono k5.size)
                      have hb2 := Below.only hb o5 hb.size (fun j e => by have e' : j = B5 := e; omega)
                      have hB : Boxd (Wd.setCell ⟨B5, 0, none⟩ (.pointer pn)) B5 pn tn := ⟨by simpa using u5, k1.2.1, (k1.2.2.below bWd).aside r5 o5⟩
                      refine ⟨hB.below by2, by rw [ey2, HBz.out]; exact one_re _ _, ((k3.below bWd).aside r5 o5 (fun e => k7 e.symm)).below by2, ((k4.below bWd).aside r5 o5).below by2, hb2.trans (by2.mono hb2.size)⟩)
                    clear u5 o5 r5 hz hy1 hsS asd by1 by2 ey1 ey2 hHeld bWd HS6 HBz
                    go_wp2
                    go_meet
                    exact ⟨_, rfl, HE⟩
                case rest =>
                  obtain ⟨Bs, rfl, HCC⟩ := hcut
                  have hsd := stands41 (c := 1) HCC.out.1.2.2 HCC.out.1.2.1 H14.out.2.1.1 H14.out.2.1.2.1.symm HCC.out.2.1
                  have cM := HCC.out.1.cell
                  have HLN : Hid (mayL tn.list = true ∧ [((g, r, lb, n, ix), X)] = elsL tn.list) := hide ⟨H14.out.2.1.1, H14.out.2.1.2.1.symm⟩
                  clear H4 H6 H7 H14 HCX HI HWX
                  go_wp2_with (first
                    | (go_at_call 39; refine (numP _ _).mono ?_; rintro e wn ⟨rfl, rfl⟩; dsimp only)
                    | (go_at_call 41; refine hsd.mono ?_; rintro e w9 ⟨rfl, b9⟩; replace HCC := hide (And.intro (HCC.out.1.below b9) (And.intro (HCC.out.2.1.below b9) (And.intro (HCC.out.2.2.1.below b9) (And.intro (HCC.out.2.2.2.1.below b9) (HCC.out.2.2.2.2.trans (b9.mono HCC.out.2.2.2.2.size)))))); clear b9; dsimp only))
                  go_roundw
                  case rel => exact ⟨i + 1, tn, pn, [((g, r, lb, n, ix), X)], 1, _, 1, rfl, by go_num, by omega, hide ⟨HCC.out.1, HLN.out.1, HLN.out.2, HCC.out.2.1, rfl, HCC.out.2.2.1, HCC.out.2.2.2.1, HCC.out.2.2.2.2⟩⟩
                  case measure => simp [intOf]; omega
          · have hsd := stands41 (c := c8) HI.out.2.2.2.2.2.1.2.2 HI.out.2.2.2.2.2.1.2.1 HMY.out.1 HMY.out.2.symm HI.out.2.2.2.2.2.2.1
            rw [srtE_len, ← HL.out.1] at hsd
            have cF := HI.out.2.2.2.2.2.1.cell
            by_cases h1 : i < M
            · have y1 : (i : Int) < (M : Int) := by omega
              have y2 : decide (i < M) = true := by simpa using h1
              have y3 : ¬ (i : Int) < 60 := by omega
              have y4 : decide (i < 60) = false := by simp; omega
              clear hgo
              go_wp2_with (first
                | (go_at_call 41; refine hsd.mono ?_; rintro e w9 ⟨rfl, b9⟩; have H9 := hide (HI.out.2.2.2.2.2.2.2.trans (b9.mono HI.out.2.2.2.2.2.2.2.size)); clear b9; dsimp only)
                | (go_at_call 36; refine (known32 _).mono ?_; rintro e w10 ⟨rfl, b10⟩; have H10 := hide (H9.out.trans (b10.mono H9.out.size)); clear b10; dsimp only))
              go_ret
              exact ⟨rfl, H10.out⟩
            · have y1 : ¬ (i : Int) < (M : Int) := by omega
              have y2 : decide (i < M) = false := by simpa using h1
              clear hgo
              go_wp2_with (first
                | (go_at_call 41; refine hsd.mono ?_; rintro e w9 ⟨rfl, b9⟩; have H9 := hide (HI.out.2.2.2.2.2.2.2.trans (b9.mono HI.out.2.2.2.2.2.2.2.size)); clear b9; dsimp only)
                | (go_at_call 36; refine (known32 _).mono ?_; rintro e w10 ⟨rfl, b10⟩; have H10 := hide (H9.out.trans (b10.mono H9.out.size)); clear b10; dsimp only))
              go_ret
              exact ⟨rfl, H10.out⟩
    · have hg' : goodL l = false := by simpa using hg
      rw [if_neg hg] at hof
      have HG := hide hg'
      clear hN hMM h k hs ks hmayE h120 hg hg'
      go_enter Tryz.func6, Tryz.ntmps6
      go_upto_region 4 with (go_at_call 37; refine hof.mono ?_; rintro e w1 ⟨t, pt, hpt, rfl, mg, -, hnil, b1⟩; have H1 := hide (And.intro hpt (And.intro mg (And.intro (hnil HG.out) b1))); clear hpt mg hnil b1; dsimp only)
      obtain ⟨hpt, mg, hnil, b1⟩ := H1.out
      obtain ⟨B5, hB5⟩ : ∃ q, q = w1.heap.size := ⟨_, rfl⟩
      obtain ⟨W1, hW1⟩ : ∃ q, q = w1.alloc (.cells #[.pointer pt] 27) := ⟨_, rfl⟩
      have b31 : Below w1.heap.size w1 W1 := by rw [hW1]; exact (Below.refl _ w1).alloc (Nat.le_refl _) _
      have BX1 : Boxd W1 B5 pt t := ⟨by rw [hW1, hB5]; exact heap_alloc_new w1 _, hpt, mg.below b31⟩
      have bW1 : Below w.heap.size w W1 := b1.trans (b31.mono b1.size)
      have hn0 : t.n = 0 := by rw [hnil]; rfl
      rw [← hW1, ← hB5]
      have hmy := refMay12 (c := c) l (HL.out.2.2.1.below bW1) (by have := HL.out; omega) HL.out.2.2.2.2.1
      rw [← HL.out.1, HL.out.2.2.2.2.2.2.1, HG.out] at hmy
      have HT := hide (And.intro BX1 (And.intro hn0 bW1))
      clear H1 hpt mg hnil b1 hB5 hW1 b31 BX1 bW1 hof hn0
      go_upto_region 5 with (go_at_call 38; refine hmy.mono ?_; rintro e W2 ⟨rfl, b2⟩; replace HT := hide (And.intro (HT.out.1.below b2) (And.intro HT.out.2.1 (HT.out.2.2.trans (b2.mono HT.out.2.2.size)))); clear b2 hmy; dsimp only)
      have cM := HT.out.1.cell
      have hlen := lenP HT.out.1.2.2 HT.out.1.2.1
      rw [HT.out.2.1] at hlen
      go_wp2_with (first
        | (go_at_call 39; refine (numP _ _).mono ?_; rintro e wn ⟨rfl, rfl⟩; dsimp only)
        | (go_at_call 17; refine hlen.mono ?_; rintro e w3 ⟨rfl, b3⟩; have H3 := hide (HT.out.2.2.trans (b3.mono HT.out.2.2.size)); clear b3; dsimp only)
        | (go_at_call 36; refine (known32 _).mono ?_; rintro e w4 ⟨rfl, b4⟩; have H4 := hide (H3.out.trans (b4.mono H3.out.size)); clear b4; dsimp only))
      go_ret
      exact ⟨rfl, H4.out⟩
end Go.Proofs.YtkeldhohilmdcaaGreat
