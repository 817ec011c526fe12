/-
  MapMakes: THE WALK WHERE EACH KEY IS THERE ONCE.
-/
import Derived.Test.YtleaaoknjflgoaaMakesW
import Derived.Deep.DeepCutAuto
namespace Go.Proofs.Ytleaaoknjflgoaa
open Go.RowKit Go.Shelf
set_option linter.unusedSimpArgs false

/-- A call and an operation that makes memory come up together. -/
theorem fork_op {P : Program} {md : Region.Mode} {ops : Array Oper} {Q : Exit → Act → World → Prop} {S : World → Prop} {i j : Nat} {oi oj : Oper} {d dj : Tmp} {OP OPj : Op} {T Tj : TypeId} {f : FuncId} {args : Array Value} {vj : Value} {fuel : Nat} {listed : Array Bool} {a : Act} {w w' : World} (hi : ops[i]? = some oi) (hd : oi.dst = some d) (ho : oi.op = OP) (ht : oi.type = T) (hj : ops[j]? = some oj) (hdj : oj.dst = some dj) (hoj : oj.op = OPj) (htj : oj.type = Tj)
    (hr : Region.ready md ops listed = [i, j]) (hw : Region.wanted oi (yielded ops a.tmps) = true) (hwj : Region.wanted oj (yielded ops a.tmps) = true)
    (hy : (execOp a.eval { dst := none, op := OP, type := T, pos := "", after := #[], guard := none }).run P w = .ok (.enter f args) w)
    (hyj : (execOp a.eval { dst := none, op := OPj, type := Tj, pos := "", after := #[], guard := none }).run P w = .ok (.value vj) w') (hS : S w')
    (h : Calls P f args w fun e w' => ∃ v, e = .returned v ∧ S w' ∧ wpAnyH P md ops Q S fuel (listed.setIfInBounds i true) (a.put (some d) v) w')
    (h2 : wpAnyH P md ops Q S fuel (listed.setIfInBounds j true) (a.put (some dj) vj) w') : wpAnyH P md ops Q S (fuel + 1) listed a w := by
  refine wpAnyH_ready hr (by simp) (AllReadyH.cons hi (fun K hK => ?_) (AllReadyH.cons hj (fun K hK => ?_) AllReadyH.nil))
  · rw [if_pos hw]
    unfold Oper.wp
    rw [exec_same a.eval oi ho ht, hy]
    refine Calls.mono h ?_
    rintro e w' ⟨v, rfl, hS, hx⟩
    show K (a.put oi.dst v) w'
    rw [hd]
    exact hK.out _ _ hS (fun _ => hx)
  · rw [if_pos hwj]
    unfold Oper.wp
    rw [exec_same a.eval oj hoj htj, hyj]
    show K (a.put oj.dst vj) w'
    rw [hdj]
    exact hK.out _ _ hS (fun _ => h2)

theorem gt_less (a b : ByteArray) : (!Op.bytesLess a.toList b.toList && !(a.toList == b.toList)) = Op.bytesLess b.toList a.toList := by
  rw [less_B, less_B]
  have h1 := ord_B.range a b
  have h2 := ord_B.anti a b
  by_cases e : a = b
  · subst e; simp [ord_B.refl]
  · have h3 : (a.toList == b.toList) = false := by
      simp only [beq_eq_false_iff_ne, ne_eq]
      intro h
      rw [ByteArray.toList_eq, ByteArray.toList_eq] at h
      exact e (ByteArray.ext (Array.toList_inj.1 h))
    have h4 : cmpB a b ≠ 0 := fun h => e (ord_B.eq a b h)
    rw [h3]
    rcases h1 with h | h | h
    · have : ¬ cmpB b a = -1 := by omega
      simp [h, this]
    · exact (h4 h).elim
    · have : cmpB b a = -1 := by omega
      have h' : ¬ cmpB a b = -1 := by omega
      simp [this, h']
/-- All entries of two maps with one between them, one behind the other. -/
theorem app_three {W : World} {a12 a15 : Option Addr} {l r : List Nm} {c12 c15 : Nat} {key : ByteArray} (h12 : Es W (.slice a12 l.length c12) l) (h15 : Es W (.slice a15 r.length c15) r) (hl : l.length ≤ 100) (hr : r.length ≤ 100) :
    ∃ a1 c1 x2 a2 c2 x3 a3 c3 x4,
      (Builtin.append_ #[27, 27] 27 #[.slice none 0 0, .slice a12 l.length c12]).run Try.prog W = .ok (.slice a1 l.length c1) x2 ∧
      (Builtin.append_ #[27, 27] 27 #[.slice a1 l.length c1, .slice (some ⟨x2.heap.size, 0, none⟩) 1 1]).run Try.prog (x2.alloc (.cells #[.string key, .int .i64 7] 44)) = .ok (.slice a2 (l.length + 1) c2) x3 ∧
      (Builtin.append_ #[27, 27] 27 #[.slice a2 (l.length + 1) c2, .slice a15 r.length c15]).run Try.prog x3 = .ok (.slice a3 (l ++ (key, 7) :: r).length c3) x4 ∧
      Es x4 (.slice a3 (l ++ (key, 7) :: r).length c3) (l ++ (key, 7) :: r) ∧ Below W.heap.size W x4 := by
  obtain ⟨ao, cap, e, r12, _, n12, _⟩ := h12.ex
  obtain ⟨ao', cap', e', r15, _, n15, _⟩ := h15.ex
  simp only [Value.slice.injEq] at e e'
  obtain ⟨rfl, _, rfl⟩ := e
  obtain ⟨rfl, _, rfl⟩ := e'
  have ap1 := app_ents (w := W) (B := W.heap.size) (v := .slice none 0 0) (p := []) (l := l) (ao := a12) (c := c12) (On.nil _ _) n12 r12 (by simp; omega) (Nat.le_refl _)
  simp only [List.nil_append] at ap1
  obtain ⟨a1, c1, x2, r1, hO1, b1⟩ := ap1
  have ha2 : Below x2.heap.size x2 (x2.alloc (.cells #[.string key, .int .i64 7] 44)) := (Below.refl _ x2).alloc (Nat.le_refl _) _
  have ap2 := app_ents (w := x2.alloc (.cells #[.string key, .int .i64 7] 44)) (B := W.heap.size) (p := l) (l := [(key, 7)]) (ao := some ⟨x2.heap.size, 0, none⟩) (c := 1) (hO1.below ha2) (by simp) (cells_ent x2 (key, 7)) (by simp; omega) (Nat.le_trans b1.size ha2.size)
  simp only [List.length_append, List.length_singleton] at ap2
  obtain ⟨a2, c2, x3, r2, hO2, b2⟩ := ap2
  have b3 : Below W.heap.size W x3 := b1.trans ((ha2.mono b1.size).trans b2)
  have ap3 := app_ents (w := x3) (B := W.heap.size) (p := l ++ [(key, 7)]) (l := r) (ao := a15) (c := c15) hO2 n15 (r15.below b3) (by simp; omega) b3.size
  rw [show l ++ [(key, (7 : Int))] ++ r = l ++ (key, 7) :: r from by simp] at ap3
  obtain ⟨a3, c3, x4, r3, hO3, b4⟩ := ap3
  exact ⟨a1, c1, x2, a2, c2, x3, a3, c3, x4, r1, r2, r3, hO3.es, b3.trans b4⟩

set_option maxHeartbeats 8000000 in
set_option maxRecDepth 100000 in
theorem makes_good (ks : List ByteArray) (vs : List Int) (ms : List ByteArray) (ka va ma : Option Addr) (kc vc mc : Nat) (key : ByteArray) (w : World) (hk : Cs w (.slice ka ks.length kc) (ks.map .string)) (hv : Cs w (.slice va vs.length vc) (vs.map (.int .i64))) (hm : Cs w (.slice ma ms.length mc) (ms.map .string)) (h1 : ks.length ≤ 40) (h2 : ms.length ≤ 40) (he : ks.length = vs.length) (hnd : ks.Nodup) :
    Calls Try.prog 4 #[.slice ka ks.length kc, .slice va vs.length vc, .slice ma ms.length mc, .string key] w fun e w' => e = .returned (.bool true) ∧ Below w.heap.size w w' := by
  have hof := of_good ks vs _ _ w hk hv (by omega) he hnd
  have HKV := hide (And.intro hk (And.intro hv (And.intro hm hnd)))
  obtain ⟨N, hN⟩ : ∃ N, N = ks.length := ⟨_, rfl⟩
  obtain ⟨M, hM⟩ : ∃ M, M = ms.length := ⟨_, rfl⟩
  rw [← he, ← hN] at hof
  rw [← he, ← hN, ← hM]
  rw [← hN] at h1
  rw [← hM] at h2
  have HN := hide (And.intro hN (And.intro he hM))
  clear hk hv hm hnd hN hM he
  have z1 : ¬ (40 : Int) < (N : Int) := by omega
  have z2 : decide ((40 : Int) < (N : Int)) = false := by simpa using z1
  have z3 : ¬ (40 : Int) < (M : Int) := by omega
  have z4 : decide ((40 : Int) < (M : Int)) = false := by simpa using z3
  go_enter Try.func4, Try.ntmps4
  go_upto_region 4 with (go_at_call 21; refine hof.mono ?_; rintro e w1 ⟨t, he, it, tb, tsr, tl, b1⟩; obtain ⟨pt, hpt⟩ := t.ptr_shape; have he' : e = .returned (.tuple #[.agg #[.pointer pt], .int .i64 0]) := (by rw [he]; unfold mv; rw [hpt]); subst he'; clear he; have H1 := hide (And.intro it (And.intro tb (And.intro tsr (And.intro tl (And.intro b1 hpt))))); clear it tb tsr tl b1 hpt; dsimp only)
  obtain ⟨it, tb, tsr, tl, b1, hpt⟩ := H1.out
  obtain ⟨wa, hwa⟩ : ∃ wa, wa = w1.alloc (.cells #[.pointer pt] 26) := ⟨_, rfl⟩
  have ba1 : Below w1.heap.size w1 wa := by rw [hwa]; exact (Below.refl _ w1).alloc (Nat.le_refl _) _
  have cm : wa.cell? ⟨w1.heap.size, 0, none⟩ = some (.pointer pt) := by rw [hwa]; exact cell_new w1 _ 26
  have HA := hide (And.intro (b1.trans (ba1.mono b1.size)) (In.below ba1 it))
  rw [← hwa]
  obtain ⟨B9, hB9⟩ : ∃ B9, B9 = w1.heap.size := ⟨_, rfl⟩
  rw [← hB9] at cm ⊢
  have HCM := hide cm
  clear hwa ba1 b1 hB9 hof cm it tb tsr tl hpt
  go_wp2
  go_loopw [11, 12, 13] (fun v11 v12 v13 wr => ∃ (i : Nat) (l : List Nm), i ≤ N ∧ v13 = .int .i64 i ∧ v11 = .bool false ∧ Hid (Es wr v12 l ∧ PutsI ks vs i l ∧ Below wa.heap.size wa wr)) (fun _ _ v13 _ => N - (intOf v13).toNat)
  case atStart => exact ⟨0, [], by omega, rfl, by first | rfl | simp, hide ⟨Es.nil _, PutsI.none ks vs, Below.refl _ _⟩⟩
  case round =>
    obtain ⟨i, l, hi, rfl, rfl, HL⟩ := hrel
    have hI := HL.out.2.1
    have hll0 := hI.len
    by_cases hiN : i < N
    · have y1 : (i : Int) < (N : Int) := by omega
      obtain ⟨k, hk⟩ : ∃ k, ks[i]? = some k := ⟨ks[i]'(by rw [← HN.out.1]; exact hiN), List.getElem?_eq_getElem _⟩
      obtain ⟨v, hv⟩ : ∃ v, vs[i]? = some v := ⟨vs[i]'(by rw [← HN.out.2.1, ← HN.out.1]; exact hiN), List.getElem?_eq_getElem _⟩
      have bwr : Below w.heap.size w wr := HA.out.1.trans (HL.out.2.2.mono HA.out.1.size)
      obtain ⟨kb, ko, kc', e1, _, ck, _⟩ := (HKV.out.1.below bwr).at (j := i) (u := .string k) (by rw [List.getElem?_map, hk]; rfl)
      obtain ⟨vb, vo, vc', e2, _, cv, _⟩ := (HKV.out.2.1.below bwr).at (j := i) (u := .int .i64 v) (by rw [List.getElem?_map, hv]; rfl)
      simp only [Value.slice.injEq] at e1 e2
      obtain ⟨rfl, _, rfl⟩ := e1
      obtain ⟨rfl, _, rfl⟩ := e2
      have hll : l.length ≤ 100000 := by omega
      have hgf : has k l = false := by
        cases hg : has k l with
        | false => rfl
        | true => exact (hI.twice hk hg HKV.out.2.2.2).elim
      have ca := at_any l u12 k wr HL.out.1 hll
      rw [hgf] at ca
      have HLP : Hid (∀ W, Below wr.heap.size wr W → Calls Try.prog 10 #[u12, .string k, .int .i64 v] W fun e w' => ∃ sv', e = .returned sv' ∧ Es w' sv' (ins k v l) ∧ Below W.heap.size W w') := hide (fun W hW => lput_any l u12 k v W (HL.out.1.below hW) hll)
      have HS := hide (hI.step hk hv hgf)
      generalize pos k l = P at *
      clear hI hk hv bwr hgf hll0
      go_upto_region 10 with (go_at_call 8; refine ca.mono ?_; rintro e w2 ⟨rfl, n2, h2'⟩; have b2 : Below wr.heap.size wr w2 := (by rw [h2']; exact below_drew _ _); have q0 : w2.cell? ⟨kb, ko + i, none⟩ = some (.string k) ∧ w2.cell? ⟨vb, vo + i, none⟩ = some (.int .i64 v) ∧ Hid (Below wr.heap.size wr w2) := ⟨cell_stays ck b2, cell_stays cv b2, hide b2⟩; clear h2'; dsimp only)
      have qd : w2.drew.cell? ⟨kb, ko + i, none⟩ = some (.string k) ∧ w2.drew.cell? ⟨vb, vo + i, none⟩ = some (.int .i64 v) ∧ Hid (Below wr.heap.size wr w2.drew) := ⟨q0.1, q0.2.1, hide (q0.2.2.out.trans ((drew_below w2).mono q0.2.2.out.size))⟩
      refine wp_region_held_drew (S := (fun w' => w'.cell? ⟨kb, ko + i, none⟩ = some (.string k) ∧ w'.cell? ⟨vb, vo + i, none⟩ = some (.int .i64 v) ∧ Hid (Below wr.heap.size wr w'))) (by kernel_rfl) qd (fun hHeld => ?_)
      try dsimp only at hHeld
      refine take_op (i := 0) (d := 62) (OP := Op.move (Operand.tmp 12)) (T := 27) (v := ?vzz1) rfl rfl rfl rfl (by kernel_rfl) (by kernel_rfl) (by kernel_rfl) (fun _ _ _ h => h) (by rfl) ?hzz1 hHeld ?rzz1
      case hzz1 => (intro w' hSw; (try dsimp only at hSw); go_simp <;> with_reducible rfl)
      try simp only [Act.put, List.setIfInBounds_toArray, List.set_cons_zero, List.set_cons_succ]
      refine take_op (i := 1) (d := 63) (OP := Op.move (Operand.tmp 0)) (T := 50) (v := ?vzz2) rfl rfl rfl rfl (by kernel_rfl) (by kernel_rfl) (by kernel_rfl) (fun _ _ _ h => h) (by rfl) ?hzz2 hHeld ?rzz2
      case hzz2 => (intro w' hSw; (try dsimp only at hSw); go_simp <;> with_reducible rfl)
      try simp only [Act.put, List.setIfInBounds_toArray, List.set_cons_zero, List.set_cons_succ]
      refine take_op (i := 2) (d := 64) (OP := Op.move (Operand.tmp 13)) (T := 3) (v := ?vzz3) rfl rfl rfl rfl (by kernel_rfl) (by kernel_rfl) (by kernel_rfl) (fun _ _ _ h => h) (by rfl) ?hzz3 hHeld ?rzz3
      case hzz3 => (intro w' hSw; (try dsimp only at hSw); go_simp <;> with_reducible rfl)
      try simp only [Act.put, List.setIfInBounds_toArray, List.set_cons_zero, List.set_cons_succ]
      refine take_op (i := 3) (d := 65) (OP := Op.indexAddr 50 (Operand.tmp 63) (Operand.tmp 64)) (T := 0) (v := ?vzz4) rfl rfl rfl rfl (by kernel_rfl) (by kernel_rfl) (by kernel_rfl) (fun _ _ _ h => h) (by rfl) ?hzz4 hHeld ?rzz4
      case hzz4 => (intro w' hSw; (try dsimp only at hSw); go_simp <;> with_reducible rfl)
      try simp only [Act.put, List.setIfInBounds_toArray, List.set_cons_zero, List.set_cons_succ]
      refine take_op (i := 4) (d := 66) (OP := Op.load 9 (Operand.tmp 65)) (T := 9) (v := ?vzz5) rfl rfl rfl rfl (by kernel_rfl) (by kernel_rfl) (by kernel_rfl) (fun _ _ _ h => h) (by rfl) ?hzz5 hHeld ?rzz5
      case hzz5 => (intro w' hSw; (try dsimp only at hSw); go_simp <;> with_reducible rfl)
      try simp only [Act.put, List.setIfInBounds_toArray, List.set_cons_zero, List.set_cons_succ]
      refine take_op (i := 5) (d := 67) (OP := Op.move (Operand.tmp 1)) (T := 51) (v := ?vzz6) rfl rfl rfl rfl (by kernel_rfl) (by kernel_rfl) (by kernel_rfl) (fun _ _ _ h => h) (by rfl) ?hzz6 hHeld ?rzz6
      case hzz6 => (intro w' hSw; (try dsimp only at hSw); go_simp <;> with_reducible rfl)
      try simp only [Act.put, List.setIfInBounds_toArray, List.set_cons_zero, List.set_cons_succ]
      refine take_op (i := 6) (d := 68) (OP := Op.move (Operand.tmp 13)) (T := 3) (v := ?vzz7) rfl rfl rfl rfl (by kernel_rfl) (by kernel_rfl) (by kernel_rfl) (fun _ _ _ h => h) (by rfl) ?hzz7 hHeld ?rzz7
      case hzz7 => (intro w' hSw; (try dsimp only at hSw); go_simp <;> with_reducible rfl)
      try simp only [Act.put, List.setIfInBounds_toArray, List.set_cons_zero, List.set_cons_succ]
      refine take_op (i := 7) (d := 69) (OP := Op.indexAddr 51 (Operand.tmp 67) (Operand.tmp 68)) (T := 0) (v := ?vzz8) rfl rfl rfl rfl (by kernel_rfl) (by kernel_rfl) (by kernel_rfl) (fun _ _ _ h => h) (by rfl) ?hzz8 hHeld ?rzz8
      case hzz8 => (intro w' hSw; (try dsimp only at hSw); go_simp <;> with_reducible rfl)
      try simp only [Act.put, List.setIfInBounds_toArray, List.set_cons_zero, List.set_cons_succ]
      refine take_op (i := 8) (d := 70) (OP := Op.load 3 (Operand.tmp 69)) (T := 3) (v := ?vzz9) rfl rfl rfl rfl (by kernel_rfl) (by kernel_rfl) (by kernel_rfl) (fun _ _ _ h => h) (by rfl) ?hzz9 hHeld ?rzz9
      case hzz9 => (intro w' hSw; (try dsimp only at hSw); go_simp <;> with_reducible rfl)
      try simp only [Act.put, List.setIfInBounds_toArray, List.set_cons_zero, List.set_cons_succ]
      refine call_op (i := 9) (d := 71) (OP := Op.call { callee := Callee.value (Operand.func 10), args := #[Operand.tmp 62, Operand.tmp 66, Operand.tmp 70], argTypes := #[27, 9, 3] }) (T := 27) (f := 10) (args := #[u12, .string k, .int .i64 v]) rfl rfl rfl rfl (by kernel_rfl) (by rfl) (by go_simp) ?_
      refine (HLP.out _ qd.2.2.out).mono ?_
      rintro e w3 ⟨sv', rfl, e3, b3⟩
      have qw3 : w3.cell? ⟨kb, ko + i, none⟩ = some (.string k) ∧ w3.cell? ⟨vb, vo + i, none⟩ = some (.int .i64 v) ∧ Hid (Below wr.heap.size wr w3) := ⟨cell_stays qd.1 b3, cell_stays qd.2.1 b3, hide (qd.2.2.out.trans (b3.mono qd.2.2.out.size))⟩
      refine ⟨_, rfl, qw3, ?_⟩
      replace hHeld := qw3
      try simp only [Act.put, List.setIfInBounds_toArray, List.set_cons_zero, List.set_cons_succ]
      refine take_op (i := 10) (d := 12) (OP := Op.assign (Operand.tmp 71)) (T := 27) (v := ?vzz10) rfl rfl rfl rfl (by kernel_rfl) (by kernel_rfl) (by kernel_rfl) (fun _ _ _ h => h) (by rfl) ?hzz10 hHeld ?rzz10
      case hzz10 => (intro w' hSw; (try dsimp only at hSw); go_simp <;> with_reducible rfl)
      try simp only [Act.put, List.setIfInBounds_toArray, List.set_cons_zero, List.set_cons_succ]
      refine wpAnyH_done (by kernel_rfl) ?_ _
      go_wp2
      go_roundw
      case rel => exact ⟨i + 1, ins k v l, by omega, by go_num, rfl, hide ⟨e3, HS.out, HL.out.2.2.trans (qw3.2.2.out.mono HL.out.2.2.size)⟩⟩
      case measure => simp [intOf]; omega
    · have ei : i = N := by omega
      subst ei
      have y1 : decide ((i : Int) < (i : Int)) = false := by simp
      obtain ⟨it, tb, tsr, tl, b1, hpt⟩ := H1.out
      have htl : t.list = l := tl l hI
      subst htl
      have hg : Good wr t := ⟨In.below HL.out.2.2 HA.out.2, tb, tsr, by rw [T.n_eq] at hll0; omega⟩
      have ct := tells_any t u12 1 key wr hg HL.out.1
      rw [show mv t = .agg #[.pointer pt] from by unfold mv; rw [hpt]] at ct
      have c9 := cell_stays HCM.out HL.out.2.2
      have htn : t.n ≤ 40 := by rw [T.n_eq] at hll0; omega
      have HG := hide (And.intro hg (And.intro HL.out.1 (And.intro (HA.out.1.trans (HL.out.2.2.mono HA.out.1.size)) (And.intro hpt htn))))
      clear it tb tsr tl b1 hg hI hll0 HL H1 HCM hiN hpt
      go_wp2_with (go_at_call 17; refine ct.mono ?_; rintro e w3 ⟨rfl, b3⟩; have c9 := cell_stays c9 b3; replace b3 := hide b3; dsimp only)
      have HG3 : Hid (Good w3 t ∧ Es w3 u12 t.list ∧ Below w.heap.size w w3 ∧ t.ptr = .pointer pt ∧ t.n ≤ 40 ∧ w3.cell? ⟨B9, 0, none⟩ = some (.pointer pt)) := hide ⟨HG.out.1.below b3.out, HG.out.2.1.below b3.out, HG.out.2.2.1.trans (b3.out.mono HG.out.2.2.1.size), HG.out.2.2.2.1, HG.out.2.2.2.2, c9⟩
      have i0 : LowI w3 (w3.alloc (.cells #[.pointer none] 26)) .nil (.slice none 0 0) 0 := ⟨heap_alloc_new w3 _, trivial, trivial, List.Pairwise.nil, Es.nil _, by simp [T.n], (Below.refl _ w3).alloc (Nat.le_refl _) _⟩
      have HI0 := hide i0
      clear HG b3 c9 ct htn HA i0
      go_loopw [15, 16] (fun v15 v16 wr => ∃ (j : Nat) (t2 : T), j ≤ M ∧ v16 = .int .i64 j ∧ Hid (LowI w3 wr t2 v15 j)) (fun _ v16 _ => M - (intOf v16).toNat)
      case atStart => exact ⟨0, .nil, by omega, rfl, HI0⟩
      case round =>
        obtain ⟨j, t2, hj, rfl, HL⟩ := hrel
        by_cases hjM : j < M
        · have y2 : (j : Int) < (M : Int) := by omega
          obtain ⟨k, hk⟩ : ∃ k, ms[j]? = some k := ⟨ms[j]'(by rw [← HN.out.2.2]; exact hjM), List.getElem?_eq_getElem _⟩
          obtain ⟨mb, mo, mc', e1, _, ckw, _⟩ := HKV.out.2.2.1.at (j := j) (u := .string k) (by rw [List.getElem?_map, hk]; rfl)
          simp only [Value.slice.injEq] at e1
          obtain ⟨rfl, _, rfl⟩ := e1
          have hlt := World.block_lt_of_cell? w _ ckw
          simp only at hlt
          have bw3 := HG3.out.2.2.1
          have ck : wr.cell? ⟨mb, mo + j, none⟩ = some (.string k) := cell_stays (cell_stays ckw bw3) HL.out.below
          have hlt3 : mb < w3.heap.size := Nat.lt_of_lt_of_le hlt bw3.size
          obtain ⟨a, ha⟩ := t2.ptr_shape
          have hfew := HL.out.few
          have hn7 : t2.n ≤ 700000 := by omega
          have hll : t2.list.length ≤ 100000 := by rw [T.n_eq]; omega
          have mp : ∀ W, Below wr.heap.size wr W → Calls Try.prog 9 #[.agg #[.pointer a], .string k, .int .i64 (j : Nat)] W fun e w' => ∃ t', e = .returned (mv t') ∧ In w' t' ∧ Puts W.heap.size k (j : Nat) t2 t' ∧ Below W.heap.size W w' := fun W hW => by
            have := mPut_any t2 k (j : Nat) W (In.below hW HL.out.tree) hn7
            rw [show mv t2 = .agg #[.pointer a] from by unfold mv; rw [ha]] at this
            exact this
          have lp : ∀ W, Below wr.heap.size wr W → Calls Try.prog 10 #[u15, .string k, .int .i64 (j : Nat)] W fun e w' => ∃ sv', e = .returned sv' ∧ Es w' sv' (ins k (j : Nat) t2.list) ∧ Below W.heap.size W w' := fun W hW => lput_any t2.list u15 k (j : Nat) W (HL.out.list.below hW) hll
          have hbx : wr.heap[w3.heap.size]? = some (.cells #[.pointer a] 26 (0, 0)) := by rw [HL.out.box, ha]
          have c14d : wr.drew.cell? ⟨w3.heap.size, 0, none⟩ = some (.pointer a) := (cell_of_row _ _ 0 _ 26 (0, 0) hbx).trans rfl
          have q0 : wr.cell? ⟨mb, mo + j, none⟩ = some (.string k) ∧ Hid (Below w3.heap.size w3 wr) := ⟨ck, hide HL.out.below⟩
          clear hn7 hll hk hlt ckw ck bw3
          go_upto_region 20 with (fail)
          have qd : wr.drew.cell? ⟨mb, mo + j, none⟩ = some (.string k) ∧ Hid (Below w3.heap.size w3 wr.drew) := ⟨q0.1, hide (q0.2.out.trans ((drew_below wr).mono q0.2.out.size))⟩
          refine wp_region_held_drew (S := (fun w' => w'.cell? ⟨mb, mo + j, none⟩ = some (.string k) ∧ Hid (Below w3.heap.size w3 w'))) (by kernel_rfl) qd (fun hHeld => ?_)
          try dsimp only at hHeld
          refine take_op (i := 1) (d := 99) (OP := Op.move (Operand.tmp 2)) (T := 50) (v := ?vzz11) rfl rfl rfl rfl (by kernel_rfl) (by kernel_rfl) (by kernel_rfl) (fun _ _ _ h => h) (by rfl) ?hzz11 hHeld ?rzz11
          case hzz11 => (intro w' hSw; (try dsimp only at hSw); go_simp <;> with_reducible rfl)
          try simp only [Act.put, List.setIfInBounds_toArray, List.set_cons_zero, List.set_cons_succ]
          refine take_op (i := 2) (d := 100) (OP := Op.move (Operand.tmp 16)) (T := 3) (v := ?vzz12) rfl rfl rfl rfl (by kernel_rfl) (by kernel_rfl) (by kernel_rfl) (fun _ _ _ h => h) (by rfl) ?hzz12 hHeld ?rzz12
          case hzz12 => (intro w' hSw; (try dsimp only at hSw); go_simp <;> with_reducible rfl)
          try simp only [Act.put, List.setIfInBounds_toArray, List.set_cons_zero, List.set_cons_succ]
          refine take_op (i := 3) (d := 101) (OP := Op.indexAddr 50 (Operand.tmp 99) (Operand.tmp 100)) (T := 0) (v := ?vzz13) rfl rfl rfl rfl (by kernel_rfl) (by kernel_rfl) (by kernel_rfl) (fun _ _ _ h => h) (by rfl) ?hzz13 hHeld ?rzz13
          case hzz13 => (intro w' hSw; (try dsimp only at hSw); go_simp <;> with_reducible rfl)
          try simp only [Act.put, List.setIfInBounds_toArray, List.set_cons_zero, List.set_cons_succ]
          refine take_op (i := 4) (d := 102) (OP := Op.load 9 (Operand.tmp 101)) (T := 9) (v := ?vzz14) rfl rfl rfl rfl (by kernel_rfl) (by kernel_rfl) (by kernel_rfl) (fun _ _ _ h => h) (by rfl) ?hzz14 hHeld ?rzz14
          case hzz14 => (intro w' hSw; (try dsimp only at hSw); go_simp <;> with_reducible rfl)
          try simp only [Act.put, List.setIfInBounds_toArray, List.set_cons_zero, List.set_cons_succ]
          refine take_op (i := 5) (d := 103) (OP := Op.move (Operand.tmp 16)) (T := 3) (v := ?vzz15) rfl rfl rfl rfl (by kernel_rfl) (by kernel_rfl) (by kernel_rfl) (fun _ _ _ h => h) (by rfl) ?hzz15 hHeld ?rzz15
          case hzz15 => (intro w' hSw; (try dsimp only at hSw); go_simp <;> with_reducible rfl)
          try simp only [Act.put, List.setIfInBounds_toArray, List.set_cons_zero, List.set_cons_succ]
          refine take_op (i := 7) (d := 105) (OP := Op.move (Operand.tmp 15)) (T := 27) (v := ?vzz16) rfl rfl rfl rfl (by kernel_rfl) (by kernel_rfl) (by kernel_rfl) (fun _ _ _ h => h) (by rfl) ?hzz16 hHeld ?rzz16
          case hzz16 => (intro w' hSw; (try dsimp only at hSw); go_simp <;> with_reducible rfl)
          try simp only [Act.put, List.setIfInBounds_toArray, List.set_cons_zero, List.set_cons_succ]
          refine take_op (i := 8) (d := 106) (OP := Op.move (Operand.tmp 2)) (T := 50) (v := ?vzz17) rfl rfl rfl rfl (by kernel_rfl) (by kernel_rfl) (by kernel_rfl) (fun _ _ _ h => h) (by rfl) ?hzz17 hHeld ?rzz17
          case hzz17 => (intro w' hSw; (try dsimp only at hSw); go_simp <;> with_reducible rfl)
          try simp only [Act.put, List.setIfInBounds_toArray, List.set_cons_zero, List.set_cons_succ]
          refine take_op (i := 9) (d := 107) (OP := Op.move (Operand.tmp 16)) (T := 3) (v := ?vzz18) rfl rfl rfl rfl (by kernel_rfl) (by kernel_rfl) (by kernel_rfl) (fun _ _ _ h => h) (by rfl) ?hzz18 hHeld ?rzz18
          case hzz18 => (intro w' hSw; (try dsimp only at hSw); go_simp <;> with_reducible rfl)
          try simp only [Act.put, List.setIfInBounds_toArray, List.set_cons_zero, List.set_cons_succ]
          refine take_op (i := 10) (d := 108) (OP := Op.indexAddr 50 (Operand.tmp 106) (Operand.tmp 107)) (T := 0) (v := ?vzz19) rfl rfl rfl rfl (by kernel_rfl) (by kernel_rfl) (by kernel_rfl) (fun _ _ _ h => h) (by rfl) ?hzz19 hHeld ?rzz19
          case hzz19 => (intro w' hSw; (try dsimp only at hSw); go_simp <;> with_reducible rfl)
          try simp only [Act.put, List.setIfInBounds_toArray, List.set_cons_zero, List.set_cons_succ]
          refine take_op (i := 11) (d := 109) (OP := Op.load 9 (Operand.tmp 108)) (T := 9) (v := ?vzz20) rfl rfl rfl rfl (by kernel_rfl) (by kernel_rfl) (by kernel_rfl) (fun _ _ _ h => h) (by rfl) ?hzz20 hHeld ?rzz20
          case hzz20 => (intro w' hSw; (try dsimp only at hSw); go_simp <;> with_reducible rfl)
          try simp only [Act.put, List.setIfInBounds_toArray, List.set_cons_zero, List.set_cons_succ]
          refine take_op (i := 12) (d := 110) (OP := Op.move (Operand.tmp 16)) (T := 3) (v := ?vzz21) rfl rfl rfl rfl (by kernel_rfl) (by kernel_rfl) (by kernel_rfl) (fun _ _ _ h => h) (by rfl) ?hzz21 hHeld ?rzz21
          case hzz21 => (intro w' hSw; (try dsimp only at hSw); go_simp <;> with_reducible rfl)
          try simp only [Act.put, List.setIfInBounds_toArray, List.set_cons_zero, List.set_cons_succ]
          refine alone_op (i := 0) (d := 98) (OP := Op.load 26 (Operand.tmp 14)) (T := 26) (v := .agg #[.pointer a]) rfl rfl rfl rfl (by kernel_rfl) (by rfl) (by go_simp) qd ?_
          try simp only [Act.put, List.setIfInBounds_toArray, List.set_cons_zero, List.set_cons_succ]
          refine call_op (i := 6) (d := 104) (OP := Op.call { callee := Callee.value (Operand.func 9), args := #[Operand.tmp 98, Operand.tmp 102, Operand.tmp 103], argTypes := #[26, 9, 3] }) (T := 26) (f := 9) (args := #[.agg #[.pointer a], .string k, .int .i64 (j : Nat)]) rfl rfl rfl rfl (by kernel_rfl) (by rfl) (by go_simp) ?_
          refine (mp _ (drew_below wr)).mono ?_
          rintro e v1 ⟨t', he, i1, ht, b1⟩
          obtain ⟨a', ha'⟩ := t'.ptr_shape
          have he' : e = .returned (.agg #[.pointer a']) := by rw [he]; unfold mv; rw [ha']
          subst he'
          clear he
          have bk1 : Below wr.heap.size wr v1 := (drew_below wr).trans (b1.mono (drew_below wr).size)
          have qv1 : v1.cell? ⟨mb, mo + j, none⟩ = some (.string k) ∧ Hid (Below w3.heap.size w3 v1) := ⟨cell_stays qd.1 b1, hide (qd.2.out.trans (b1.mono qd.2.out.size))⟩
          refine ⟨_, rfl, qv1, ?_⟩
          replace hHeld := qv1
          try simp only [Act.put, List.setIfInBounds_toArray, List.set_cons_zero, List.set_cons_succ]
          refine call_op (i := 13) (d := 111) (OP := Op.call { callee := Callee.value (Operand.func 10), args := #[Operand.tmp 105, Operand.tmp 109, Operand.tmp 110], argTypes := #[27, 9, 3] }) (T := 27) (f := 10) (args := #[u15, .string k, .int .i64 (j : Nat)]) rfl rfl rfl rfl (by kernel_rfl) (by rfl) (by go_simp) ?_
          refine (lp _ bk1).mono ?_
          rintro e v2 ⟨sv', rfl, e2, b2⟩
          have bk2 : Below wr.heap.size wr v2 := bk1.trans (b2.mono bk1.size)
          have qv2 : v2.cell? ⟨mb, mo + j, none⟩ = some (.string k) ∧ Hid (Below w3.heap.size w3 v2) := ⟨cell_stays qv1.1 b2, hide (qv1.2.out.trans (b2.mono qv1.2.out.size))⟩
          refine ⟨_, rfl, qv2, ?_⟩
          replace hHeld := qv2
          try simp only [Act.put, List.setIfInBounds_toArray, List.set_cons_zero, List.set_cons_succ]
          have h2 : v2.heap[w3.heap.size]? = some (.cells #[.pointer a] 26 (0, 0)) := (bk2.block _ (Array.getElem?_eq_some_iff.1 hbx).1).trans hbx
          have c2 : v2.cell? ⟨w3.heap.size, 0, none⟩ = some (.pointer a) := (cell_of_row _ _ 0 _ 26 (0, 0) h2).trans rfl
          have f2 : v2.frozen? ⟨w3.heap.size, 0, none⟩ = false := frozen_of_row _ _ 0 _ 26 h2
          have sy := ht.says HL.out.srt HL.out.bal (In.under (In.below (drew_below wr) HL.out.tree))
          have i2 := In.below b2 i1
          have hlist : t'.list = ins k (j : Nat) t2.list := ht.list HL.out.srt
          obtain ⟨o1, o2, o3⟩ := set_box (y := a') h2 (Nat.le_refl _) (HL.out.below.trans (bk2.mono HL.out.below.size))
          have hI : LowI w3 (v2.setCell ⟨w3.heap.size, 0, none⟩ (.pointer a')) t' sv' (j + 1) := ⟨by rw [ha']; exact o1, In.aside h2 o3 i2, sy.bal, by rw [hlist]; exact srt_ins HL.out.srt k (j : Nat), by rw [hlist]; exact e2.aside h2 o3, by have := ht.n; omega, o2⟩
          have HI3 := hide hI
          have q3 : (v2.setCell ⟨w3.heap.size, 0, none⟩ (.pointer a')).cell? ⟨mb, mo + j, none⟩ = some (.string k) ∧ Hid (Below w3.heap.size w3 (v2.setCell ⟨w3.heap.size, 0, none⟩ (.pointer a'))) := ⟨o3.cell qv2.1 (by simp; omega), hide o2⟩
          obtain ⟨v3, hv3⟩ : ∃ v3, v3 = v2.setCell ⟨w3.heap.size, 0, none⟩ (.pointer a') := ⟨_, rfl⟩
          rw [← hv3] at HI3 q3
          refine skip_op (i := 14) (OP := Op.store 26 (Operand.tmp 14) (Operand.tmp 104)) (T := 0) (w' := v3) rfl rfl rfl rfl (by kernel_rfl) (by rfl) (by rw [hv3]; go_simp) ⟨q3, ?_⟩
          try simp only [Act.put, List.setIfInBounds_toArray, List.set_cons_zero, List.set_cons_succ]
          replace hHeld := q3
          refine take_op (i := 15) (d := 15) (OP := Op.assign (Operand.tmp 111)) (T := 27) (v := ?vzz22) rfl rfl rfl rfl (by kernel_rfl) (by kernel_rfl) (by kernel_rfl) (fun _ _ _ h => h) (by rfl) ?hzz22 hHeld ?rzz22
          case hzz22 => (intro w' hSw; (try dsimp only at hSw); go_simp <;> with_reducible rfl)
          try simp only [Act.put, List.setIfInBounds_toArray, List.set_cons_zero, List.set_cons_succ]
          refine wpAnyH_done (by kernel_rfl) ?_ _
          clear hI o1 o2 o3 q3 hHeld h2 c2 f2 sy i2 hlist mp lp qv1 qv2 bk1 bk2 b1 b2 i1 ht e2 hv3 c14d q0 qd hbx
          go_wp2
          go_roundw
          case rel => exact ⟨j + 1, t', by omega, by go_num, HI3⟩
          case measure => simp [intOf]; omega
        · have ej : j = M := by omega
          subst ej
          have y2 : decide ((j : Int) < (j : Int)) = false := by simp
          have es12 := HG3.out.2.1.below HL.out.below
          have es15 := HL.out.list
          obtain ⟨a12, c12, e12, r12, -, -, sp12⟩ := es12.ex
          obtain ⟨a15, c15, e15, r15, -, -, sp15⟩ := es15.ex
          have hf := fits_lists (l := t) (r := t2) (k := key)
          have hl12 := T.n_eq t
          have hl15 := T.n_eq t2
          have hfew := HL.out.few
          have htn := HG3.out.2.2.2.2.1
          subst e12 e15
          have HF := hide (And.intro hf (And.intro es12 es15))
          have HR := hide (And.intro r12 (And.intro sp12 (And.intro r15 sp15)))
          clear es12 es15 r12 r15 sp12 sp15 hf
          generalize hF : fitsB t key t2 = F at *
          have HF2 := hide hF
          clear hF
          go_upto_region 21 with (fail)
          go_cut [12, 15, 17] (fun v12 v15 v17 wx => v12 = .slice a12 t.list.length c12 ∧ v15 = .slice a15 t2.list.length c15 ∧ v17 = .bool F ∧ wx = wr)
          case first =>
           as_aux_lemma =>
            by_cases g12 : t.list = []
            · have n12 : t.list.length = 0 := by rw [g12]; rfl
              rw [n12]
              have LR1 : t.list.getLast? = none := by rw [g12]; rfl
              have B1 : True := trivial
              by_cases g15 : t2.list = []
              · have n15 : t2.list.length = 0 := by rw [g15]; rfl
                rw [n15]
                have LR2 : t2.list.head? = none := by rw [g15]; rfl
                go_wp2_with fail
                go_meet
                refine ⟨by simp [n12], by simp [n15], ?_, rfl⟩
                (try rw [HF2.out])
                rw [HF.out.1, LR1, LR2]
                simp [B1, gt_less]
              · obtain ⟨y, rest, hy⟩ : ∃ y rest, t2.list = y :: rest := by cases hq : t2.list with | nil => exact (g15 hq).elim | cons y rest => exact ⟨y, rest, rfl⟩
                have LR2 : t2.list.head? = some y := by rw [hy]; rfl
                obtain ⟨n15, hn15⟩ : ∃ n15, t2.list.length = n15 + 1 := ⟨rest.length, by rw [hy]; rfl⟩
                obtain ⟨yb, yo, hya, cy, _⟩ := HR.out.2.2.1.at HR.out.2.2.2 (k := 0) (x := y) (by rw [hy]; rfl)
                subst hya
                rw [Nat.zero_mul, Nat.add_zero] at cy
                rw [hn15]
                have hb15 : n15 ≤ 40 := by omega
                go_wp2_with fail
                go_meet
                refine ⟨by simp [n12], by simp [hn15], ?_, rfl⟩
                (try rw [HF2.out])
                rw [HF.out.1, LR1, LR2]
                simp [B1, gt_less]
            · obtain ⟨x, hx⟩ : ∃ x, t.list.getLast? = some x := ⟨t.list.getLast g12, List.getLast?_eq_some_getLast g12⟩
              have LR1 := hx
              obtain ⟨n12, hn12⟩ : ∃ n12, t.list.length = n12 + 1 := ⟨t.list.length - 1, by have := List.length_pos_iff.2 g12; omega⟩
              obtain ⟨xb, xo, hxa, cx, _⟩ := HR.out.1.at HR.out.2.1 (k := n12) (x := x) (by rw [List.getLast?_eq_getElem?, hn12] at hx; exact hx)
              subst hxa
              rw [hn12]
              have hb12 : n12 ≤ 40 := by omega
              have w12 : IntKind.i64.wrap ((n12 : Int) + 1 - 1) = (n12 : Int) := by rw [IntKind.wrap_i64]; omega
              cases B1 : Op.bytesLess x.1.toList key.toList with
              | true =>
                by_cases g15 : t2.list = []
                · have n15 : t2.list.length = 0 := by rw [g15]; rfl
                  rw [n15]
                  have LR2 : t2.list.head? = none := by rw [g15]; rfl
                  go_wp2_with fail
                  go_meet
                  refine ⟨by simp [hn12], by simp [n15], ?_, rfl⟩
                  (try rw [HF2.out])
                  rw [HF.out.1, LR1, LR2]
                  simp [B1, gt_less]
                · obtain ⟨y, rest, hy⟩ : ∃ y rest, t2.list = y :: rest := by cases hq : t2.list with | nil => exact (g15 hq).elim | cons y rest => exact ⟨y, rest, rfl⟩
                  have LR2 : t2.list.head? = some y := by rw [hy]; rfl
                  obtain ⟨n15, hn15⟩ : ∃ n15, t2.list.length = n15 + 1 := ⟨rest.length, by rw [hy]; rfl⟩
                  obtain ⟨yb, yo, hya, cy, _⟩ := HR.out.2.2.1.at HR.out.2.2.2 (k := 0) (x := y) (by rw [hy]; rfl)
                  subst hya
                  rw [Nat.zero_mul, Nat.add_zero] at cy
                  rw [hn15]
                  have hb15 : n15 ≤ 40 := by omega
                  go_wp2_with fail
                  go_meet
                  refine ⟨by simp [hn12], by simp [hn15], ?_, rfl⟩
                  (try rw [HF2.out])
                  rw [HF.out.1, LR1, LR2]
                  simp [B1, gt_less]
              | false =>
                go_wp2_with fail
                go_meet
                refine ⟨by simp [hn12], rfl, ?_, rfl⟩
                (try rw [HF2.out])
                rw [HF.out.1, LR1]
                simp [B1]
          case rest =>
            obtain ⟨rfl, rfl, rfl, hwx⟩ := hcut
            replace hwx := hwx.symm
            subst hwx
            have hF := HF2.out
            have c9 : wr.cell? ⟨B9, 0, none⟩ = some (.pointer pt) := cell_stays HG3.out.2.2.2.2.2 HL.out.below
            obtain ⟨p2, hp2⟩ := t2.ptr_shape
            have hpt := HG3.out.2.2.2.1
            have c14 : wr.cell? ⟨w3.heap.size, 0, none⟩ = some (.pointer p2) := by rw [cell_of_row _ _ 0 _ 26 (0, 0) HL.out.box, hp2]; rfl
            have itw : In wr t := In.below HL.out.below HG3.out.1.tree
            have hh1 := low60 HG3.out.1.bal (by omega)
            have hh2 := low60 HL.out.bal (by omega)
            have hB9 : B9 < w3.heap.size := World.block_lt_of_cell? w3 _ HG3.out.2.2.2.2.2
            have hsz3 : w3.heap.size < wr.heap.size := (Array.getElem?_eq_some_iff.1 HL.out.box).1
            have ro1 : ∀ W, Calls Try.prog 23 #[.agg #[.pointer pt]] W fun e w' => e = .returned (.pointer pt) ∧ Below W.heap.size W w' := fun W => by
              have := mRoot_any t W
              rw [show mv t = .agg #[.pointer pt] from by unfold mv; rw [hpt], hpt] at this
              exact this
            have ro2 : ∀ W, Calls Try.prog 23 #[.agg #[.pointer p2]] W fun e w' => e = .returned (.pointer p2) ∧ Below W.heap.size W w' := fun W => by
              have := mRoot_any t2 W
              rw [show mv t2 = .agg #[.pointer p2] from by unfold mv; rw [hp2], hp2] at this
              exact this
            clear HR HN HI0
            obtain ⟨MB, hmk⟩ : ∃ MB, makesB t key t2 = MB := ⟨_, rfl⟩
            obtain ⟨K1, hK1⟩ : ∃ K1 : Int, K1 = if F = true then 0 else 2 := ⟨_, rfl⟩
            obtain ⟨K2, hK2⟩ : ∃ K2 : Int, K2 = if MB = true then 0 else 2 := ⟨_, rfl⟩
            have jn : Calls Try.prog 18 #[.agg #[.pointer pt], .string key, .int .i64 7, .agg #[.pointer p2]] wr fun e w' => ∃ x px, e = .returned (.tuple #[.agg #[.pointer px], .int .i64 K1]) ∧ x.ptr = .pointer px ∧ ((F = true → Joined wr.heap.size key 7 t t2 x) ∧ (F = false → x = .nil)) ∧ In w' x ∧ Below wr.heap.size wr w' := by
              have := mJoin_any t t2 key 7 wr itw HL.out.tree (by omega)
              rw [show mv t = .agg #[.pointer pt] from by unfold mv; rw [hpt], show mv t2 = .agg #[.pointer p2] from by unfold mv; rw [hp2], hF] at this
              refine this.mono ?_
              rintro e w' ⟨x, he, hx0, hx1, ix, hbel⟩
              obtain ⟨px, hpx⟩ := x.ptr_shape
              exact ⟨x, px, by rw [he, hK1]; unfold mv; rw [hpx], hpx, ⟨hx1, hx0⟩, ix, hbel⟩
            have mk : ∀ W, Below wr.heap.size wr W → Calls Try.prog 22 #[.pointer pt, .string key, .int .i64 7, .pointer p2] W fun e w' => ∃ y py, e = .returned (.tuple #[.agg #[.pointer py], .int .i64 K2]) ∧ y.ptr = .pointer py ∧ ((MB = true → ∃ p, y = .node p key 7 t t2) ∧ (MB = false → y = .nil)) ∧ In w' y ∧ Below W.heap.size W w' := fun W hW => by
              have := mMake_any t t2 key 7 W (In.below hW itw) (In.below hW HL.out.tree) (by omega) (by omega) (by omega)
              rw [hpt, hp2, hmk] at this
              refine this.mono ?_
              rintro e w' ⟨y, he, hy0, hy1, iy, hbel⟩
              obtain ⟨py, hpy⟩ := y.ptr_shape
              exact ⟨y, py, by rw [he, hK2]; unfold mv; rw [hpy], hpy, ⟨fun h => by obtain ⟨p, _, hp⟩ := hy1 h; exact ⟨p, hp⟩, hy0⟩, iy, hbel⟩
            have HMK := hide mk
            have HK12 := hide (And.intro hmk (And.intro hK1 hK2))
            clear mk hmk hK1 hK2
            go_upto_region 23 with (go_at_call 18; refine jn.mono ?_; rintro e w5 ⟨x, px, rfl, hpx, hxf, ix, b5⟩; have c9 := cell_stays c9 b5; have c14 := cell_stays c14 b5; have H5 := hide (And.intro hpx (And.intro hxf (And.intro ix b5))); clear hpx hxf ix b5; dsimp only)
            obtain ⟨w6, hw6⟩ : ∃ w6, w6 = w5.alloc (.cells #[.pointer px] 26) := ⟨_, rfl⟩
            have b6 : Below w5.heap.size w5 w6 := by rw [hw6]; exact (Below.refl _ w5).alloc (Nat.le_refl _) _
            have c18 : w6.cell? ⟨w5.heap.size, 0, none⟩ = some (.pointer px) := by rw [hw6]; exact cell_new w5 _ 26
            have c9 := cell_stays c9 b6
            have c14 := cell_stays c14 b6
            rw [← hw6]
            have b56 : Below wr.heap.size wr w6 := H5.out.2.2.2.trans (b6.mono H5.out.2.2.2.size)
            have H6 := hide (And.intro b56 (In.below b6 H5.out.2.2.1))
            have hsz6 : wr.heap.size ≤ w6.heap.size := b56.size
            clear hw6 b6 jn
            go_upto_region 23 with (fail)
            go_cut [19, 20] (fun v19 v20 wx => ∃ (B19 : Nat) (y : T) (py : Option Addr), v19 = .pointer (some ⟨B19, 0, none⟩) ∧ v20 = .int .i64 K2 ∧ wx.cell? ⟨B19, 0, none⟩ = some (.pointer py) ∧ Hid (y.ptr = .pointer py ∧ ((MB = true → ∃ p, y = .node p key 7 t t2) ∧ (MB = false → y = .nil)) ∧ In wx y ∧ Below w6.heap.size w6 wx))
            case first =>
             as_aux_lemma =>
              have q0 : w6.cell? ⟨B9, 0, none⟩ = some (.pointer pt) ∧ w6.cell? ⟨w3.heap.size, 0, none⟩ = some (.pointer p2) ∧ Hid (Below w6.heap.size w6 w6) := ⟨c9, c14, hide (Below.refl _ _)⟩
              clear c9 c14 c18 H5
              have qd : w6.drew.cell? ⟨B9, 0, none⟩ = some (.pointer pt) ∧ w6.drew.cell? ⟨w3.heap.size, 0, none⟩ = some (.pointer p2) ∧ Hid (Below w6.heap.size w6 w6.drew) := ⟨q0.1, q0.2.1, hide (q0.2.2.out.trans ((drew_below w6).mono q0.2.2.out.size))⟩
              refine wp_region_held_drew (S := (fun w' => w'.cell? ⟨B9, 0, none⟩ = some (.pointer pt) ∧ w'.cell? ⟨w3.heap.size, 0, none⟩ = some (.pointer p2) ∧ Hid (Below w6.heap.size w6 w'))) (by kernel_rfl) qd (fun hHeld => ?_)
              try dsimp only at hHeld
              refine take_op (i := 0) (d := 147) (OP := Op.load 26 (Operand.tmp 9)) (T := 26) (v := ?vzz23) rfl rfl rfl rfl (by kernel_rfl) (by kernel_rfl) (by kernel_rfl) (fun _ _ _ h => h) (by rfl) ?hzz23 hHeld ?rzz23
              case hzz23 => (intro w' hSw; (try dsimp only at hSw); go_simp <;> with_reducible rfl)
              try simp only [Act.put, List.setIfInBounds_toArray, List.set_cons_zero, List.set_cons_succ]
              refine take_op (i := 2) (d := 149) (OP := Op.move (Operand.tmp 3)) (T := 9) (v := ?vzz24) rfl rfl rfl rfl (by kernel_rfl) (by kernel_rfl) (by kernel_rfl) (fun _ _ _ h => h) (by rfl) ?hzz24 hHeld ?rzz24
              case hzz24 => (intro w' hSw; (try dsimp only at hSw); go_simp <;> with_reducible rfl)
              try simp only [Act.put, List.setIfInBounds_toArray, List.set_cons_zero, List.set_cons_succ]
              refine take_op (i := 3) (d := 150) (OP := Op.load 26 (Operand.tmp 14)) (T := 26) (v := ?vzz25) rfl rfl rfl rfl (by kernel_rfl) (by kernel_rfl) (by kernel_rfl) (fun _ _ _ h => h) (by rfl) ?hzz25 hHeld ?rzz25
              case hzz25 => (intro w' hSw; (try dsimp only at hSw); go_simp <;> with_reducible rfl)
              try simp only [Act.put, List.setIfInBounds_toArray, List.set_cons_zero, List.set_cons_succ]
              have ba : Below w6.drew.heap.size w6.drew (w6.drew.alloc (.cells #[.pointer none] 26)) := (Below.refl _ _).alloc (Nat.le_refl _) _
              have qa : (w6.drew.alloc (.cells #[.pointer none] 26)).cell? ⟨B9, 0, none⟩ = some (.pointer pt) ∧ (w6.drew.alloc (.cells #[.pointer none] 26)).cell? ⟨w3.heap.size, 0, none⟩ = some (.pointer p2) ∧ Hid (Below w6.heap.size w6 (w6.drew.alloc (.cells #[.pointer none] 26))) := ⟨cell_stays qd.1 ba, cell_stays qd.2.1 ba, hide (qd.2.2.out.trans (ba.mono qd.2.2.out.size))⟩
              refine fork_op (i := 1) (j := 9) (d := 148) (dj := 19) (OP := Op.call { callee := Callee.value (Operand.func 23), args := #[Operand.tmp 147], argTypes := #[26] }) (OPj := Op.alloc 26) (T := 24) (Tj := 0) (f := 23) (args := #[.agg #[.pointer pt]]) (vj := .pointer (some ⟨w6.drew.heap.size, 0, none⟩)) (w' := (w6.drew.alloc (.cells #[.pointer none] 26))) rfl rfl rfl rfl rfl rfl rfl rfl (by kernel_rfl) (by rfl) (by rfl) (by go_simp) (by go_simp <;> rfl) qa ?_ ?_
              · refine (ro1 _).mono ?_
                rintro e z0 ⟨rfl, bz0⟩
                have qz0 : z0.cell? ⟨B9, 0, none⟩ = some (.pointer pt) ∧ z0.cell? ⟨w3.heap.size, 0, none⟩ = some (.pointer p2) ∧ Hid (Below w6.heap.size w6 z0) := ⟨cell_stays qd.1 bz0, cell_stays qd.2.1 bz0, hide (qd.2.2.out.trans (bz0.mono qd.2.2.out.size))⟩
                refine ⟨_, rfl, qz0, ?_⟩
                replace hHeld := qz0
                clear qa ba
                try simp only [Act.put, List.setIfInBounds_toArray, List.set_cons_zero, List.set_cons_succ]
                have ba : Below z0.heap.size z0 (z0.alloc (.cells #[.pointer none] 26)) := (Below.refl _ _).alloc (Nat.le_refl _) _
                have qa : (z0.alloc (.cells #[.pointer none] 26)).cell? ⟨B9, 0, none⟩ = some (.pointer pt) ∧ (z0.alloc (.cells #[.pointer none] 26)).cell? ⟨w3.heap.size, 0, none⟩ = some (.pointer p2) ∧ Hid (Below w6.heap.size w6 (z0.alloc (.cells #[.pointer none] 26))) := ⟨cell_stays qz0.1 ba, cell_stays qz0.2.1 ba, hide (qz0.2.2.out.trans (ba.mono qz0.2.2.out.size))⟩
                refine fork_op (i := 4) (j := 9) (d := 151) (dj := 19) (OP := Op.call { callee := Callee.value (Operand.func 23), args := #[Operand.tmp 150], argTypes := #[26] }) (OPj := Op.alloc 26) (T := 24) (Tj := 0) (f := 23) (args := #[.agg #[.pointer p2]]) (vj := .pointer (some ⟨z0.heap.size, 0, none⟩)) (w' := (z0.alloc (.cells #[.pointer none] 26))) rfl rfl rfl rfl rfl rfl rfl rfl (by kernel_rfl) (by rfl) (by rfl) (by go_simp) (by go_simp <;> rfl) qa ?_ ?_
                · refine (ro2 _).mono ?_
                  rintro e z1 ⟨rfl, bz1⟩
                  have qz1 : z1.cell? ⟨B9, 0, none⟩ = some (.pointer pt) ∧ z1.cell? ⟨w3.heap.size, 0, none⟩ = some (.pointer p2) ∧ Hid (Below w6.heap.size w6 z1) := ⟨cell_stays qz0.1 bz1, cell_stays qz0.2.1 bz1, hide (qz0.2.2.out.trans (bz1.mono qz0.2.2.out.size))⟩
                  refine ⟨_, rfl, qz1, ?_⟩
                  replace hHeld := qz1
                  clear qa ba
                  try simp only [Act.put, List.setIfInBounds_toArray, List.set_cons_zero, List.set_cons_succ]
                  have ba : Below z1.heap.size z1 (z1.alloc (.cells #[.pointer none] 26)) := (Below.refl _ _).alloc (Nat.le_refl _) _
                  have qa : (z1.alloc (.cells #[.pointer none] 26)).cell? ⟨B9, 0, none⟩ = some (.pointer pt) ∧ (z1.alloc (.cells #[.pointer none] 26)).cell? ⟨w3.heap.size, 0, none⟩ = some (.pointer p2) ∧ Hid (Below w6.heap.size w6 (z1.alloc (.cells #[.pointer none] 26))) := ⟨cell_stays qz1.1 ba, cell_stays qz1.2.1 ba, hide (qz1.2.2.out.trans (ba.mono qz1.2.2.out.size))⟩
                  refine fork_op (i := 5) (j := 9) (d := 152) (dj := 19) (OP := Op.call { callee := Callee.value (Operand.func 22), args := #[Operand.tmp 148, Operand.tmp 149, Operand.const (Value.int IntKind.i64 7), Operand.tmp 151], argTypes := #[24, 9, 3, 24] }) (OPj := Op.alloc 26) (T := 47) (Tj := 0) (f := 22) (args := #[.pointer pt, .string key, .int .i64 7, .pointer p2]) (vj := .pointer (some ⟨z1.heap.size, 0, none⟩)) (w' := (z1.alloc (.cells #[.pointer none] 26))) rfl rfl rfl rfl rfl rfl rfl rfl (by kernel_rfl) (by rfl) (by rfl) (by go_simp) (by go_simp <;> rfl) qa ?_ ?_
                  · refine (HMK.out _ (b56.trans (qz1.2.2.out.mono b56.size))).mono ?_
                    rintro e z2 ⟨y, py, rfl, hpy, hyf, iy, bz2⟩
                    have qz2 : z2.cell? ⟨B9, 0, none⟩ = some (.pointer pt) ∧ z2.cell? ⟨w3.heap.size, 0, none⟩ = some (.pointer p2) ∧ Hid (Below w6.heap.size w6 z2) := ⟨cell_stays qz1.1 bz2, cell_stays qz1.2.1 bz2, hide (qz1.2.2.out.trans (bz2.mono qz1.2.2.out.size))⟩
                    refine ⟨_, rfl, qz2, ?_⟩
                    replace hHeld := qz2
                    clear qa ba
                    try simp only [Act.put, List.setIfInBounds_toArray, List.set_cons_zero, List.set_cons_succ]
                    refine take_op (i := 6) (d := 146) (OP := Op.move (Operand.tmp 152)) (T := 47) (v := ?vzz26) rfl rfl rfl rfl (by kernel_rfl) (by kernel_rfl) (by kernel_rfl) (fun _ _ _ h => h) (by rfl) ?hzz26 hHeld ?rzz26
                    case hzz26 => (intro w' hSw; (try dsimp only at hSw); go_simp <;> with_reducible rfl)
                    try simp only [Act.put, List.setIfInBounds_toArray, List.set_cons_zero, List.set_cons_succ]
                    refine take_op (i := 7) (d := 153) (OP := Op.extract (Operand.tmp 146) 0) (T := 26) (v := ?vzz27) rfl rfl rfl rfl (by kernel_rfl) (by kernel_rfl) (by kernel_rfl) (fun _ _ _ h => h) (by rfl) ?hzz27 hHeld ?rzz27
                    case hzz27 => (intro w' hSw; (try dsimp only at hSw); go_simp <;> with_reducible rfl)
                    try simp only [Act.put, List.setIfInBounds_toArray, List.set_cons_zero, List.set_cons_succ]
                    refine take_op (i := 8) (d := 154) (OP := Op.extract (Operand.tmp 146) 1) (T := 46) (v := ?vzz28) rfl rfl rfl rfl (by kernel_rfl) (by kernel_rfl) (by kernel_rfl) (fun _ _ _ h => h) (by rfl) ?hzz28 hHeld ?rzz28
                    case hzz28 => (intro w' hSw; (try dsimp only at hSw); go_simp <;> with_reducible rfl)
                    try simp only [Act.put, List.setIfInBounds_toArray, List.set_cons_zero, List.set_cons_succ]
                    have ba : Below z2.heap.size z2 (z2.alloc (.cells #[.pointer none] 26)) := (Below.refl _ _).alloc (Nat.le_refl _) _
                    have qa : (z2.alloc (.cells #[.pointer none] 26)).cell? ⟨B9, 0, none⟩ = some (.pointer pt) ∧ (z2.alloc (.cells #[.pointer none] 26)).cell? ⟨w3.heap.size, 0, none⟩ = some (.pointer p2) ∧ Hid (Below w6.heap.size w6 (z2.alloc (.cells #[.pointer none] 26))) := ⟨cell_stays qz2.1 ba, cell_stays qz2.2.1 ba, hide (qz2.2.2.out.trans (ba.mono qz2.2.2.out.size))⟩
                    refine turn_op (i := 9) (d := 19) (OP := Op.alloc 26) (T := 0) (v := .pointer (some ⟨z2.heap.size, 0, none⟩)) (w' := (z2.alloc (.cells #[.pointer none] 26))) rfl rfl rfl rfl (by kernel_rfl) (by rfl) (by go_simp <;> rfl) qa ?_
                    try simp only [Act.put, List.setIfInBounds_toArray, List.set_cons_zero, List.set_cons_succ]
                    replace hHeld := qa
                    have hB : (z2.alloc (.cells #[.pointer none] 26)).heap[z2.heap.size]? = some (.cells #[.pointer none] 26 (0, 0)) := heap_alloc_new z2 _
                    have hBge : w6.heap.size ≤ z2.heap.size := qz2.2.2.out.size
                    replace iy := In.below ba iy
                    obtain ⟨B, hBe⟩ : ∃ B, B = z2.heap.size := ⟨_, rfl⟩
                    rw [← hBe] at hB hBge ⊢
                    obtain ⟨wv, hwv⟩ : ∃ wv, wv = (z2.alloc (.cells #[.pointer none] 26)) := ⟨_, rfl⟩
                    rw [← hwv] at hB iy qa ⊢
                    replace hHeld := qa
                    clear hBe hwv ba
                    obtain ⟨o1, o2, o3⟩ := out_box (w := w6) (y := .pointer py) hB hBge qa.2.2.out
                    have cB : wv.cell? ⟨B, 0, none⟩ = some (.pointer none) := (cell_of_row _ _ 0 _ 26 (0, 0) hB).trans rfl
                    have fB : wv.frozen? ⟨B, 0, none⟩ = false := frozen_of_row _ _ 0 _ 26 hB
                    have q9 : (wv.setCell ⟨B, 0, none⟩ (.pointer py)).cell? ⟨B9, 0, none⟩ = some (.pointer pt) ∧ (wv.setCell ⟨B, 0, none⟩ (.pointer py)).cell? ⟨w3.heap.size, 0, none⟩ = some (.pointer p2) ∧ Hid (Below w6.heap.size w6 (wv.setCell ⟨B, 0, none⟩ (.pointer py))) := ⟨o3.cell qa.1 (fun e => by simp only at e; omega), o3.cell qa.2.1 (fun e => by simp only at e; omega), hide o2⟩
                    have cF : (wv.setCell ⟨B, 0, none⟩ (.pointer py)).cell? ⟨B, 0, none⟩ = some (.pointer py) := (cell_of_row _ _ 0 _ 26 (0, 0) o1).trans rfl
                    have iF : In (wv.setCell ⟨B, 0, none⟩ (.pointer py)) y := In.aside hB o3 iy
                    refine skip_op (i := 10) (OP := Op.store 26 (Operand.tmp 19) (Operand.tmp 153)) (T := 0) (w' := (wv.setCell ⟨B, 0, none⟩ (.pointer py))) rfl rfl rfl rfl (by kernel_rfl) (by rfl) (by go_simp) ⟨q9, ?_⟩
                    try simp only [Act.put, List.setIfInBounds_toArray, List.set_cons_zero, List.set_cons_succ]
                    replace hHeld := q9
                    refine take_op (i := 11) (d := 20) (OP := Op.assign (Operand.tmp 154)) (T := 46) (v := ?vzz29) rfl rfl rfl rfl (by kernel_rfl) (by kernel_rfl) (by kernel_rfl) (fun _ _ _ h => h) (by rfl) ?hzz29 hHeld ?rzz29
                    case hzz29 => (intro w' hSw; (try dsimp only at hSw); go_simp <;> with_reducible rfl)
                    try simp only [Act.put, List.setIfInBounds_toArray, List.set_cons_zero, List.set_cons_succ]
                    refine wpAnyH_done (by kernel_rfl) ?_ _
                    go_wp2_with fail
                    go_meet
                    exact ⟨B, y, py, rfl, rfl, cF, hide ⟨hpy, hyf, iF, o2⟩⟩
                  · try simp only [Act.put, List.setIfInBounds_toArray, List.set_cons_zero, List.set_cons_succ]
                    have hB : (z1.alloc (.cells #[.pointer none] 26)).heap[z1.heap.size]? = some (.cells #[.pointer none] 26 (0, 0)) := heap_alloc_new z1 _
                    have hBge : w6.heap.size ≤ z1.heap.size := qz1.2.2.out.size
                    obtain ⟨B, hBe⟩ : ∃ B, B = z1.heap.size := ⟨_, rfl⟩
                    rw [← hBe] at hB hBge ⊢
                    obtain ⟨wv, hwv⟩ : ∃ wv, wv = (z1.alloc (.cells #[.pointer none] 26)) := ⟨_, rfl⟩
                    rw [← hwv] at hB qa ⊢
                    replace hHeld := qa
                    clear hBe hwv ba
                    refine call_op (i := 5) (d := 152) (OP := Op.call { callee := Callee.value (Operand.func 22), args := #[Operand.tmp 148, Operand.tmp 149, Operand.const (Value.int IntKind.i64 7), Operand.tmp 151], argTypes := #[24, 9, 3, 24] }) (T := 47) (f := 22) (args := #[.pointer pt, .string key, .int .i64 7, .pointer p2]) rfl rfl rfl rfl (by kernel_rfl) (by rfl) (by go_simp) ?_
                    refine (HMK.out _ (b56.trans (qa.2.2.out.mono b56.size))).mono ?_
                    rintro e x2 ⟨y, py, rfl, hpy, hyf, iy, bz2⟩
                    replace hB := (bz2.block _ (Array.getElem?_eq_some_iff.1 hB).1).trans hB
                    have qx2 : x2.cell? ⟨B9, 0, none⟩ = some (.pointer pt) ∧ x2.cell? ⟨w3.heap.size, 0, none⟩ = some (.pointer p2) ∧ Hid (Below w6.heap.size w6 x2) := ⟨cell_stays qa.1 bz2, cell_stays qa.2.1 bz2, hide (qa.2.2.out.trans (bz2.mono qa.2.2.out.size))⟩
                    refine ⟨_, rfl, qx2, ?_⟩
                    replace hHeld := qx2
                    try simp only [Act.put, List.setIfInBounds_toArray, List.set_cons_zero, List.set_cons_succ]
                    refine take_op (i := 6) (d := 146) (OP := Op.move (Operand.tmp 152)) (T := 47) (v := ?vzz30) rfl rfl rfl rfl (by kernel_rfl) (by kernel_rfl) (by kernel_rfl) (fun _ _ _ h => h) (by rfl) ?hzz30 hHeld ?rzz30
                    case hzz30 => (intro w' hSw; (try dsimp only at hSw); go_simp <;> with_reducible rfl)
                    try simp only [Act.put, List.setIfInBounds_toArray, List.set_cons_zero, List.set_cons_succ]
                    refine take_op (i := 7) (d := 153) (OP := Op.extract (Operand.tmp 146) 0) (T := 26) (v := ?vzz31) rfl rfl rfl rfl (by kernel_rfl) (by kernel_rfl) (by kernel_rfl) (fun _ _ _ h => h) (by rfl) ?hzz31 hHeld ?rzz31
                    case hzz31 => (intro w' hSw; (try dsimp only at hSw); go_simp <;> with_reducible rfl)
                    try simp only [Act.put, List.setIfInBounds_toArray, List.set_cons_zero, List.set_cons_succ]
                    refine take_op (i := 8) (d := 154) (OP := Op.extract (Operand.tmp 146) 1) (T := 46) (v := ?vzz32) rfl rfl rfl rfl (by kernel_rfl) (by kernel_rfl) (by kernel_rfl) (fun _ _ _ h => h) (by rfl) ?hzz32 hHeld ?rzz32
                    case hzz32 => (intro w' hSw; (try dsimp only at hSw); go_simp <;> with_reducible rfl)
                    try simp only [Act.put, List.setIfInBounds_toArray, List.set_cons_zero, List.set_cons_succ]
                    obtain ⟨o1, o2, o3⟩ := out_box (w := w6) (y := .pointer py) hB hBge qx2.2.2.out
                    have cB : x2.cell? ⟨B, 0, none⟩ = some (.pointer none) := (cell_of_row _ _ 0 _ 26 (0, 0) hB).trans rfl
                    have fB : x2.frozen? ⟨B, 0, none⟩ = false := frozen_of_row _ _ 0 _ 26 hB
                    have q9 : (x2.setCell ⟨B, 0, none⟩ (.pointer py)).cell? ⟨B9, 0, none⟩ = some (.pointer pt) ∧ (x2.setCell ⟨B, 0, none⟩ (.pointer py)).cell? ⟨w3.heap.size, 0, none⟩ = some (.pointer p2) ∧ Hid (Below w6.heap.size w6 (x2.setCell ⟨B, 0, none⟩ (.pointer py))) := ⟨o3.cell qx2.1 (fun e => by simp only at e; omega), o3.cell qx2.2.1 (fun e => by simp only at e; omega), hide o2⟩
                    have cF : (x2.setCell ⟨B, 0, none⟩ (.pointer py)).cell? ⟨B, 0, none⟩ = some (.pointer py) := (cell_of_row _ _ 0 _ 26 (0, 0) o1).trans rfl
                    have iF : In (x2.setCell ⟨B, 0, none⟩ (.pointer py)) y := In.aside hB o3 iy
                    refine skip_op (i := 10) (OP := Op.store 26 (Operand.tmp 19) (Operand.tmp 153)) (T := 0) (w' := (x2.setCell ⟨B, 0, none⟩ (.pointer py))) rfl rfl rfl rfl (by kernel_rfl) (by rfl) (by go_simp) ⟨q9, ?_⟩
                    try simp only [Act.put, List.setIfInBounds_toArray, List.set_cons_zero, List.set_cons_succ]
                    replace hHeld := q9
                    refine take_op (i := 11) (d := 20) (OP := Op.assign (Operand.tmp 154)) (T := 46) (v := ?vzz33) rfl rfl rfl rfl (by kernel_rfl) (by kernel_rfl) (by kernel_rfl) (fun _ _ _ h => h) (by rfl) ?hzz33 hHeld ?rzz33
                    case hzz33 => (intro w' hSw; (try dsimp only at hSw); go_simp <;> with_reducible rfl)
                    try simp only [Act.put, List.setIfInBounds_toArray, List.set_cons_zero, List.set_cons_succ]
                    refine wpAnyH_done (by kernel_rfl) ?_ _
                    go_wp2_with fail
                    go_meet
                    exact ⟨B, y, py, rfl, rfl, cF, hide ⟨hpy, hyf, iF, o2⟩⟩
                · try simp only [Act.put, List.setIfInBounds_toArray, List.set_cons_zero, List.set_cons_succ]
                  have hB : (z0.alloc (.cells #[.pointer none] 26)).heap[z0.heap.size]? = some (.cells #[.pointer none] 26 (0, 0)) := heap_alloc_new z0 _
                  have hBge : w6.heap.size ≤ z0.heap.size := qz0.2.2.out.size
                  obtain ⟨B, hBe⟩ : ∃ B, B = z0.heap.size := ⟨_, rfl⟩
                  rw [← hBe] at hB hBge ⊢
                  obtain ⟨wv, hwv⟩ : ∃ wv, wv = (z0.alloc (.cells #[.pointer none] 26)) := ⟨_, rfl⟩
                  rw [← hwv] at hB qa ⊢
                  replace hHeld := qa
                  clear hBe hwv ba
                  refine call_op (i := 4) (d := 151) (OP := Op.call { callee := Callee.value (Operand.func 23), args := #[Operand.tmp 150], argTypes := #[26] }) (T := 24) (f := 23) (args := #[.agg #[.pointer p2]]) rfl rfl rfl rfl (by kernel_rfl) (by rfl) (by go_simp) ?_
                  refine (ro2 _).mono ?_
                  rintro e x1 ⟨rfl, bz1⟩
                  replace hB := (bz1.block _ (Array.getElem?_eq_some_iff.1 hB).1).trans hB
                  have qx1 : x1.cell? ⟨B9, 0, none⟩ = some (.pointer pt) ∧ x1.cell? ⟨w3.heap.size, 0, none⟩ = some (.pointer p2) ∧ Hid (Below w6.heap.size w6 x1) := ⟨cell_stays qa.1 bz1, cell_stays qa.2.1 bz1, hide (qa.2.2.out.trans (bz1.mono qa.2.2.out.size))⟩
                  refine ⟨_, rfl, qx1, ?_⟩
                  replace hHeld := qx1
                  try simp only [Act.put, List.setIfInBounds_toArray, List.set_cons_zero, List.set_cons_succ]
                  refine call_op (i := 5) (d := 152) (OP := Op.call { callee := Callee.value (Operand.func 22), args := #[Operand.tmp 148, Operand.tmp 149, Operand.const (Value.int IntKind.i64 7), Operand.tmp 151], argTypes := #[24, 9, 3, 24] }) (T := 47) (f := 22) (args := #[.pointer pt, .string key, .int .i64 7, .pointer p2]) rfl rfl rfl rfl (by kernel_rfl) (by rfl) (by go_simp) ?_
                  refine (HMK.out _ (b56.trans (qx1.2.2.out.mono b56.size))).mono ?_
                  rintro e x2 ⟨y, py, rfl, hpy, hyf, iy, bz2⟩
                  replace hB := (bz2.block _ (Array.getElem?_eq_some_iff.1 hB).1).trans hB
                  have qx2 : x2.cell? ⟨B9, 0, none⟩ = some (.pointer pt) ∧ x2.cell? ⟨w3.heap.size, 0, none⟩ = some (.pointer p2) ∧ Hid (Below w6.heap.size w6 x2) := ⟨cell_stays qx1.1 bz2, cell_stays qx1.2.1 bz2, hide (qx1.2.2.out.trans (bz2.mono qx1.2.2.out.size))⟩
                  refine ⟨_, rfl, qx2, ?_⟩
                  replace hHeld := qx2
                  try simp only [Act.put, List.setIfInBounds_toArray, List.set_cons_zero, List.set_cons_succ]
                  refine take_op (i := 6) (d := 146) (OP := Op.move (Operand.tmp 152)) (T := 47) (v := ?vzz34) rfl rfl rfl rfl (by kernel_rfl) (by kernel_rfl) (by kernel_rfl) (fun _ _ _ h => h) (by rfl) ?hzz34 hHeld ?rzz34
                  case hzz34 => (intro w' hSw; (try dsimp only at hSw); go_simp <;> with_reducible rfl)
                  try simp only [Act.put, List.setIfInBounds_toArray, List.set_cons_zero, List.set_cons_succ]
                  refine take_op (i := 7) (d := 153) (OP := Op.extract (Operand.tmp 146) 0) (T := 26) (v := ?vzz35) rfl rfl rfl rfl (by kernel_rfl) (by kernel_rfl) (by kernel_rfl) (fun _ _ _ h => h) (by rfl) ?hzz35 hHeld ?rzz35
                  case hzz35 => (intro w' hSw; (try dsimp only at hSw); go_simp <;> with_reducible rfl)
                  try simp only [Act.put, List.setIfInBounds_toArray, List.set_cons_zero, List.set_cons_succ]
                  refine take_op (i := 8) (d := 154) (OP := Op.extract (Operand.tmp 146) 1) (T := 46) (v := ?vzz36) rfl rfl rfl rfl (by kernel_rfl) (by kernel_rfl) (by kernel_rfl) (fun _ _ _ h => h) (by rfl) ?hzz36 hHeld ?rzz36
                  case hzz36 => (intro w' hSw; (try dsimp only at hSw); go_simp <;> with_reducible rfl)
                  try simp only [Act.put, List.setIfInBounds_toArray, List.set_cons_zero, List.set_cons_succ]
                  obtain ⟨o1, o2, o3⟩ := out_box (w := w6) (y := .pointer py) hB hBge qx2.2.2.out
                  have cB : x2.cell? ⟨B, 0, none⟩ = some (.pointer none) := (cell_of_row _ _ 0 _ 26 (0, 0) hB).trans rfl
                  have fB : x2.frozen? ⟨B, 0, none⟩ = false := frozen_of_row _ _ 0 _ 26 hB
                  have q9 : (x2.setCell ⟨B, 0, none⟩ (.pointer py)).cell? ⟨B9, 0, none⟩ = some (.pointer pt) ∧ (x2.setCell ⟨B, 0, none⟩ (.pointer py)).cell? ⟨w3.heap.size, 0, none⟩ = some (.pointer p2) ∧ Hid (Below w6.heap.size w6 (x2.setCell ⟨B, 0, none⟩ (.pointer py))) := ⟨o3.cell qx2.1 (fun e => by simp only at e; omega), o3.cell qx2.2.1 (fun e => by simp only at e; omega), hide o2⟩
                  have cF : (x2.setCell ⟨B, 0, none⟩ (.pointer py)).cell? ⟨B, 0, none⟩ = some (.pointer py) := (cell_of_row _ _ 0 _ 26 (0, 0) o1).trans rfl
                  have iF : In (x2.setCell ⟨B, 0, none⟩ (.pointer py)) y := In.aside hB o3 iy
                  refine skip_op (i := 10) (OP := Op.store 26 (Operand.tmp 19) (Operand.tmp 153)) (T := 0) (w' := (x2.setCell ⟨B, 0, none⟩ (.pointer py))) rfl rfl rfl rfl (by kernel_rfl) (by rfl) (by go_simp) ⟨q9, ?_⟩
                  try simp only [Act.put, List.setIfInBounds_toArray, List.set_cons_zero, List.set_cons_succ]
                  replace hHeld := q9
                  refine take_op (i := 11) (d := 20) (OP := Op.assign (Operand.tmp 154)) (T := 46) (v := ?vzz37) rfl rfl rfl rfl (by kernel_rfl) (by kernel_rfl) (by kernel_rfl) (fun _ _ _ h => h) (by rfl) ?hzz37 hHeld ?rzz37
                  case hzz37 => (intro w' hSw; (try dsimp only at hSw); go_simp <;> with_reducible rfl)
                  try simp only [Act.put, List.setIfInBounds_toArray, List.set_cons_zero, List.set_cons_succ]
                  refine wpAnyH_done (by kernel_rfl) ?_ _
                  go_wp2_with fail
                  go_meet
                  exact ⟨B, y, py, rfl, rfl, cF, hide ⟨hpy, hyf, iF, o2⟩⟩
              · try simp only [Act.put, List.setIfInBounds_toArray, List.set_cons_zero, List.set_cons_succ]
                have hB : (w6.drew.alloc (.cells #[.pointer none] 26)).heap[w6.drew.heap.size]? = some (.cells #[.pointer none] 26 (0, 0)) := heap_alloc_new w6.drew _
                have hBge : w6.heap.size ≤ w6.drew.heap.size := qd.2.2.out.size
                obtain ⟨B, hBe⟩ : ∃ B, B = w6.drew.heap.size := ⟨_, rfl⟩
                rw [← hBe] at hB hBge ⊢
                obtain ⟨wv, hwv⟩ : ∃ wv, wv = (w6.drew.alloc (.cells #[.pointer none] 26)) := ⟨_, rfl⟩
                rw [← hwv] at hB qa ⊢
                replace hHeld := qa
                clear hBe hwv ba
                refine call_op (i := 1) (d := 148) (OP := Op.call { callee := Callee.value (Operand.func 23), args := #[Operand.tmp 147], argTypes := #[26] }) (T := 24) (f := 23) (args := #[.agg #[.pointer pt]]) rfl rfl rfl rfl (by kernel_rfl) (by rfl) (by go_simp) ?_
                refine (ro1 _).mono ?_
                rintro e x0 ⟨rfl, bz0⟩
                replace hB := (bz0.block _ (Array.getElem?_eq_some_iff.1 hB).1).trans hB
                have qx0 : x0.cell? ⟨B9, 0, none⟩ = some (.pointer pt) ∧ x0.cell? ⟨w3.heap.size, 0, none⟩ = some (.pointer p2) ∧ Hid (Below w6.heap.size w6 x0) := ⟨cell_stays qa.1 bz0, cell_stays qa.2.1 bz0, hide (qa.2.2.out.trans (bz0.mono qa.2.2.out.size))⟩
                refine ⟨_, rfl, qx0, ?_⟩
                replace hHeld := qx0
                try simp only [Act.put, List.setIfInBounds_toArray, List.set_cons_zero, List.set_cons_succ]
                refine call_op (i := 4) (d := 151) (OP := Op.call { callee := Callee.value (Operand.func 23), args := #[Operand.tmp 150], argTypes := #[26] }) (T := 24) (f := 23) (args := #[.agg #[.pointer p2]]) rfl rfl rfl rfl (by kernel_rfl) (by rfl) (by go_simp) ?_
                refine (ro2 _).mono ?_
                rintro e x1 ⟨rfl, bz1⟩
                replace hB := (bz1.block _ (Array.getElem?_eq_some_iff.1 hB).1).trans hB
                have qx1 : x1.cell? ⟨B9, 0, none⟩ = some (.pointer pt) ∧ x1.cell? ⟨w3.heap.size, 0, none⟩ = some (.pointer p2) ∧ Hid (Below w6.heap.size w6 x1) := ⟨cell_stays qx0.1 bz1, cell_stays qx0.2.1 bz1, hide (qx0.2.2.out.trans (bz1.mono qx0.2.2.out.size))⟩
                refine ⟨_, rfl, qx1, ?_⟩
                replace hHeld := qx1
                try simp only [Act.put, List.setIfInBounds_toArray, List.set_cons_zero, List.set_cons_succ]
                refine call_op (i := 5) (d := 152) (OP := Op.call { callee := Callee.value (Operand.func 22), args := #[Operand.tmp 148, Operand.tmp 149, Operand.const (Value.int IntKind.i64 7), Operand.tmp 151], argTypes := #[24, 9, 3, 24] }) (T := 47) (f := 22) (args := #[.pointer pt, .string key, .int .i64 7, .pointer p2]) rfl rfl rfl rfl (by kernel_rfl) (by rfl) (by go_simp) ?_
                refine (HMK.out _ (b56.trans (qx1.2.2.out.mono b56.size))).mono ?_
                rintro e x2 ⟨y, py, rfl, hpy, hyf, iy, bz2⟩
                replace hB := (bz2.block _ (Array.getElem?_eq_some_iff.1 hB).1).trans hB
                have qx2 : x2.cell? ⟨B9, 0, none⟩ = some (.pointer pt) ∧ x2.cell? ⟨w3.heap.size, 0, none⟩ = some (.pointer p2) ∧ Hid (Below w6.heap.size w6 x2) := ⟨cell_stays qx1.1 bz2, cell_stays qx1.2.1 bz2, hide (qx1.2.2.out.trans (bz2.mono qx1.2.2.out.size))⟩
                refine ⟨_, rfl, qx2, ?_⟩
                replace hHeld := qx2
                try simp only [Act.put, List.setIfInBounds_toArray, List.set_cons_zero, List.set_cons_succ]
                refine take_op (i := 6) (d := 146) (OP := Op.move (Operand.tmp 152)) (T := 47) (v := ?vzz38) rfl rfl rfl rfl (by kernel_rfl) (by kernel_rfl) (by kernel_rfl) (fun _ _ _ h => h) (by rfl) ?hzz38 hHeld ?rzz38
                case hzz38 => (intro w' hSw; (try dsimp only at hSw); go_simp <;> with_reducible rfl)
                try simp only [Act.put, List.setIfInBounds_toArray, List.set_cons_zero, List.set_cons_succ]
                refine take_op (i := 7) (d := 153) (OP := Op.extract (Operand.tmp 146) 0) (T := 26) (v := ?vzz39) rfl rfl rfl rfl (by kernel_rfl) (by kernel_rfl) (by kernel_rfl) (fun _ _ _ h => h) (by rfl) ?hzz39 hHeld ?rzz39
                case hzz39 => (intro w' hSw; (try dsimp only at hSw); go_simp <;> with_reducible rfl)
                try simp only [Act.put, List.setIfInBounds_toArray, List.set_cons_zero, List.set_cons_succ]
                refine take_op (i := 8) (d := 154) (OP := Op.extract (Operand.tmp 146) 1) (T := 46) (v := ?vzz40) rfl rfl rfl rfl (by kernel_rfl) (by kernel_rfl) (by kernel_rfl) (fun _ _ _ h => h) (by rfl) ?hzz40 hHeld ?rzz40
                case hzz40 => (intro w' hSw; (try dsimp only at hSw); go_simp <;> with_reducible rfl)
                try simp only [Act.put, List.setIfInBounds_toArray, List.set_cons_zero, List.set_cons_succ]
                obtain ⟨o1, o2, o3⟩ := out_box (w := w6) (y := .pointer py) hB hBge qx2.2.2.out
                have cB : x2.cell? ⟨B, 0, none⟩ = some (.pointer none) := (cell_of_row _ _ 0 _ 26 (0, 0) hB).trans rfl
                have fB : x2.frozen? ⟨B, 0, none⟩ = false := frozen_of_row _ _ 0 _ 26 hB
                have q9 : (x2.setCell ⟨B, 0, none⟩ (.pointer py)).cell? ⟨B9, 0, none⟩ = some (.pointer pt) ∧ (x2.setCell ⟨B, 0, none⟩ (.pointer py)).cell? ⟨w3.heap.size, 0, none⟩ = some (.pointer p2) ∧ Hid (Below w6.heap.size w6 (x2.setCell ⟨B, 0, none⟩ (.pointer py))) := ⟨o3.cell qx2.1 (fun e => by simp only at e; omega), o3.cell qx2.2.1 (fun e => by simp only at e; omega), hide o2⟩
                have cF : (x2.setCell ⟨B, 0, none⟩ (.pointer py)).cell? ⟨B, 0, none⟩ = some (.pointer py) := (cell_of_row _ _ 0 _ 26 (0, 0) o1).trans rfl
                have iF : In (x2.setCell ⟨B, 0, none⟩ (.pointer py)) y := In.aside hB o3 iy
                refine skip_op (i := 10) (OP := Op.store 26 (Operand.tmp 19) (Operand.tmp 153)) (T := 0) (w' := (x2.setCell ⟨B, 0, none⟩ (.pointer py))) rfl rfl rfl rfl (by kernel_rfl) (by rfl) (by go_simp) ⟨q9, ?_⟩
                try simp only [Act.put, List.setIfInBounds_toArray, List.set_cons_zero, List.set_cons_succ]
                replace hHeld := q9
                refine take_op (i := 11) (d := 20) (OP := Op.assign (Operand.tmp 154)) (T := 46) (v := ?vzz41) rfl rfl rfl rfl (by kernel_rfl) (by kernel_rfl) (by kernel_rfl) (fun _ _ _ h => h) (by rfl) ?hzz41 hHeld ?rzz41
                case hzz41 => (intro w' hSw; (try dsimp only at hSw); go_simp <;> with_reducible rfl)
                try simp only [Act.put, List.setIfInBounds_toArray, List.set_cons_zero, List.set_cons_succ]
                refine wpAnyH_done (by kernel_rfl) ?_ _
                go_wp2_with fail
                go_meet
                exact ⟨B, y, py, rfl, rfl, cF, hide ⟨hpy, hyf, iF, o2⟩⟩
            case rest =>
              obtain ⟨B19, y, py, rfl, rfl, c19, HY⟩ := hcut
              have bc := HY.out.2.2.2
              have c9 := cell_stays c9 bc
              have c14 := cell_stays c14 bc
              have c18 := cell_stays c18 bc
              have bwc : Below wr.heap.size wr wc := b56.trans (bc.mono b56.size)
              have cHa : ∀ W, Below wc.heap.size wc W → Calls Try.prog 12 #[.agg #[.pointer pt]] W fun e w' => e = .returned (.int .i64 (t.h : Nat)) ∧ Below W.heap.size W w' := fun W hW => by
                have := mHeight_any t W (In.below hW (In.below bwc itw))
                rw [show mv t = .agg #[.pointer pt] from by unfold mv; rw [hpt]] at this
                exact this
              have cHb : ∀ W, Below wc.heap.size wc W → Calls Try.prog 12 #[.agg #[.pointer p2]] W fun e w' => e = .returned (.int .i64 (t2.h : Nat)) ∧ Below W.heap.size W w' := fun W hW => by
                have := mHeight_any t2 W (In.below hW (In.below bwc HL.out.tree))
                rw [show mv t2 = .agg #[.pointer p2] from by unfold mv; rw [hp2]] at this
                exact this
              have q24 : wc.cell? ⟨B9, 0, none⟩ = some (.pointer pt) ∧ wc.cell? ⟨w3.heap.size, 0, none⟩ = some (.pointer p2) ∧ wc.cell? ⟨w5.heap.size, 0, none⟩ = some (.pointer px) ∧ wc.cell? ⟨B19, 0, none⟩ = some (.pointer py) ∧ Hid (Below wc.heap.size wc wc) := ⟨c9, c14, c18, c19, hide (Below.refl _ _)⟩
              have wd : IntKind.i64.wrap ((t.h : Int) - (t2.h : Int)) = (t.h : Int) - (t2.h : Int) := by rw [IntKind.wrap_i64]; omega
              have wd2 : wrap64 ((t.h : Int) - (t2.h : Int)) = (t.h : Int) - (t2.h : Int) := by unfold wrap64; omega
              clear c9 c14 c18 c19 bc
              go_upto_region 24 with (fail)
              have qd : wc.drew.cell? ⟨B9, 0, none⟩ = some (.pointer pt) ∧ wc.drew.cell? ⟨w3.heap.size, 0, none⟩ = some (.pointer p2) ∧ wc.drew.cell? ⟨w5.heap.size, 0, none⟩ = some (.pointer px) ∧ wc.drew.cell? ⟨B19, 0, none⟩ = some (.pointer py) ∧ Hid (Below wc.heap.size wc wc.drew) := ⟨q24.1, q24.2.1, q24.2.2.1, q24.2.2.2.1, hide (q24.2.2.2.2.out.trans ((drew_below wc).mono q24.2.2.2.2.out.size))⟩
              refine wp_region_held_drew (S := (fun w' => w'.cell? ⟨B9, 0, none⟩ = some (.pointer pt) ∧ w'.cell? ⟨w3.heap.size, 0, none⟩ = some (.pointer p2) ∧ w'.cell? ⟨w5.heap.size, 0, none⟩ = some (.pointer px) ∧ w'.cell? ⟨B19, 0, none⟩ = some (.pointer py) ∧ Hid (Below wc.heap.size wc w'))) (by kernel_rfl) qd (fun hHeld => ?_)
              try dsimp only at hHeld
              refine take_op (i := 0) (d := 155) (OP := Op.load 26 (Operand.tmp 9)) (T := 26) (v := ?vzz42) rfl rfl rfl rfl (by kernel_rfl) (by kernel_rfl) (by kernel_rfl) (fun _ _ _ h => h) (by rfl) ?hzz42 hHeld ?rzz42
              case hzz42 => (intro w' hSw; (try dsimp only at hSw); go_simp <;> with_reducible rfl)
              try simp only [Act.put, List.setIfInBounds_toArray, List.set_cons_zero, List.set_cons_succ]
              refine take_op (i := 2) (d := 157) (OP := Op.load 26 (Operand.tmp 14)) (T := 26) (v := ?vzz43) rfl rfl rfl rfl (by kernel_rfl) (by kernel_rfl) (by kernel_rfl) (fun _ _ _ h => h) (by rfl) ?hzz43 hHeld ?rzz43
              case hzz43 => (intro w' hSw; (try dsimp only at hSw); go_simp <;> with_reducible rfl)
              try simp only [Act.put, List.setIfInBounds_toArray, List.set_cons_zero, List.set_cons_succ]
              refine call_op (i := 1) (d := 156) (OP := Op.call { callee := Callee.value (Operand.func 12), args := #[Operand.tmp 155], argTypes := #[26] }) (T := 3) (f := 12) (args := #[.agg #[.pointer pt]]) rfl rfl rfl rfl (by kernel_rfl) (by rfl) (by go_simp) ?_
              refine (cHa _ qd.2.2.2.2.out).mono ?_
              rintro e w7 ⟨rfl, bw7⟩
              have qw7 : w7.cell? ⟨B9, 0, none⟩ = some (.pointer pt) ∧ w7.cell? ⟨w3.heap.size, 0, none⟩ = some (.pointer p2) ∧ w7.cell? ⟨w5.heap.size, 0, none⟩ = some (.pointer px) ∧ w7.cell? ⟨B19, 0, none⟩ = some (.pointer py) ∧ Hid (Below wc.heap.size wc w7) := ⟨cell_stays qd.1 bw7, cell_stays qd.2.1 bw7, cell_stays qd.2.2.1 bw7, cell_stays qd.2.2.2.1 bw7, hide (qd.2.2.2.2.out.trans (bw7.mono qd.2.2.2.2.out.size))⟩
              refine ⟨_, rfl, qw7, ?_⟩
              replace hHeld := qw7
              try simp only [Act.put, List.setIfInBounds_toArray, List.set_cons_zero, List.set_cons_succ]
              refine call_op (i := 3) (d := 158) (OP := Op.call { callee := Callee.value (Operand.func 12), args := #[Operand.tmp 157], argTypes := #[26] }) (T := 3) (f := 12) (args := #[.agg #[.pointer p2]]) rfl rfl rfl rfl (by kernel_rfl) (by rfl) (by go_simp) ?_
              refine (cHb _ qw7.2.2.2.2.out).mono ?_
              rintro e w8 ⟨rfl, bw8⟩
              have qw8 : w8.cell? ⟨B9, 0, none⟩ = some (.pointer pt) ∧ w8.cell? ⟨w3.heap.size, 0, none⟩ = some (.pointer p2) ∧ w8.cell? ⟨w5.heap.size, 0, none⟩ = some (.pointer px) ∧ w8.cell? ⟨B19, 0, none⟩ = some (.pointer py) ∧ Hid (Below wc.heap.size wc w8) := ⟨cell_stays qw7.1 bw8, cell_stays qw7.2.1 bw8, cell_stays qw7.2.2.1 bw8, cell_stays qw7.2.2.2.1 bw8, hide (qw7.2.2.2.2.out.trans (bw8.mono qw7.2.2.2.2.out.size))⟩
              refine ⟨_, rfl, qw8, ?_⟩
              replace hHeld := qw8
              try simp only [Act.put, List.setIfInBounds_toArray, List.set_cons_zero, List.set_cons_succ]
              refine take_op (i := 4) (d := 159) (OP := Op.binOp BinOp.sub 3 (Operand.tmp 156) (Operand.tmp 158) 3) (T := 3) (v := ?vzz44) rfl rfl rfl rfl (by kernel_rfl) (by kernel_rfl) (by kernel_rfl) (fun _ _ _ h => h) (by rfl) ?hzz44 hHeld ?rzz44
              case hzz44 => (intro w' hSw; (try dsimp only at hSw); go_simp <;> with_reducible rfl)
              try simp only [Act.put, List.setIfInBounds_toArray, List.set_cons_zero, List.set_cons_succ]
              refine take_op (i := 5) (d := 21) (OP := Op.assign (Operand.tmp 159)) (T := 3) (v := ?vzz45) rfl rfl rfl rfl (by kernel_rfl) (by kernel_rfl) (by kernel_rfl) (fun _ _ _ h => h) (by rfl) ?hzz45 hHeld ?rzz45
              case hzz45 => (intro w' hSw; (try dsimp only at hSw); go_simp <;> with_reducible rfl)
              try simp only [Act.put, List.setIfInBounds_toArray, List.set_cons_zero, List.set_cons_succ]
              refine wpAnyH_done (by kernel_rfl) ?_ _
              cases F with
              | false =>
                as_aux_lemma =>
                have hMB : MB = false := by rw [← HK12.out.1]; unfold makesB; rw [hF]; rfl
                subst hMB
                have e1 : K1 = 2 := by rw [HK12.out.2.1]; rfl
                have e2 : K2 = 2 := by rw [HK12.out.2.2]; rfl
                subst e1 e2
                obtain ⟨c9, c14, c18, c19, H8⟩ := qw8
                have HC := hide (And.intro c9 (And.intro c14 (And.intro c18 c19)))
                have D8 : Hid (Below wr.heap.size wr w8 ∧ In w8 x ∧ In w8 y) := hide ⟨bwc.trans (H8.out.mono bwc.size), In.below H8.out (In.below HY.out.2.2.2 H6.out.2), In.below H8.out HY.out.2.2.1⟩
                have cl := fun W => mLen_any .nil W trivial
                unfold mv at cl
                simp only [T.ptr, T.n] at cl
                have hpy0 : py = none := by have h1 := HY.out.1; have h2 : y = .nil := HY.out.2.1.2 rfl; rw [h2] at h1; simpa [T.ptr] using h1.symm
                subst hpy0
                have hpx0 : px = none := by have h1 := H5.out.1; have h2 : x = .nil := H5.out.2.1.2 rfl; rw [h2] at h1; simpa [T.ptr] using h1.symm
                subst hpx0
                clear cHa cHb q24 qd qw7 hHeld
                have tk : True := trivial
                go_upto_region 27 with (first
                  | (go_at_call 19; clear tk; refine (cl _).mono ?_; rintro e q1 ⟨rfl, bq1⟩; have c19 := cell_stays c19 bq1; replace bq1 := hide bq1; dsimp only)
                  | (go_at_call 19; refine (cl _).mono ?_; rintro e q2 ⟨rfl, bq2⟩; replace bq2 := hide (bq1.out.trans (bq2.mono bq1.out.size)); dsimp only))
                have bz : Below wr.heap.size wr q2 := D8.out.1.trans (bq2.out.mono D8.out.1.size)
                obtain ⟨a1, cc1, x2, a2, cc2, x3, a3, cc3, x4, r1, r2, r3, es4, b4⟩ := app_three (key := key) (HF.out.2.1.below bz) (HF.out.2.2.below bz) (by omega) (by omega)
                have HE4 := hide (And.intro es4 b4)
                have b84 : Below w8.heap.size w8 x4 := bq2.out.trans (b4.mono bq2.out.size)
                have c9 := cell_stays HC.out.1 b84
                have c14 := cell_stays HC.out.2.1 b84
                have c18 := cell_stays HC.out.2.2.1 b84
                have c19 := cell_stays HC.out.2.2.2 b84
                have ix4 := In.below b84 D8.out.2.1
                have iy4 := In.below b84 D8.out.2.2
                have HB4 := hide (And.intro (D8.out.1.trans (b84.mono D8.out.1.size)) b84)
                clear b4 b84 bz es4 cl
                have hL4b : (t.list ++ (key, (7 : Int)) :: t2.list).length ≤ 100 := by simp only [List.length_append, List.length_cons]; omega
                generalize hL4 : (t.list ++ (key, 7) :: t2.list).length = L4 at *
                generalize t.list.length = L12 at *
                generalize t2.list.length = L15 at *
                clear hl12 hl15
                go_upto_region 30 with (first
                  | (at_builtin; refine wpList_turn (OP := .call { callee := .builtin .append, args := #[.const (.slice none 0 0), .tmp 204], argTypes := #[27, 27] }) (T := 27) rfl rfl rfl (exec_append rfl rfl r1) ?_)
                  | (at_builtin; refine wpList_turn (OP := .call { callee := .builtin .append, args := #[.tmp 205, .tmp 208], argTypes := #[27, 27] }) (T := 27) rfl rfl rfl (exec_append rfl rfl r2) ?_)
                  | (at_builtin; refine wpList_turn (OP := .call { callee := .builtin .append, args := #[.tmp 209, .tmp 210], argTypes := #[27, 27] }) (T := 27) rfl rfl rfl (exec_append rfl rfl r3) ?_))
                have q30 : x4.cell? ⟨B9, 0, none⟩ = some (.pointer pt) ∧ x4.cell? ⟨w3.heap.size, 0, none⟩ = some (.pointer p2) ∧ x4.cell? ⟨B19, 0, none⟩ = some (.pointer none) ∧ Hid (Below x4.heap.size x4 x4) := ⟨c9, c14, c19, hide (Below.refl _ _)⟩
                clear c9 c14 c18 c19 r1 r2 r3 ix4
                have qd : x4.drew.cell? ⟨B9, 0, none⟩ = some (.pointer pt) ∧ x4.drew.cell? ⟨w3.heap.size, 0, none⟩ = some (.pointer p2) ∧ x4.drew.cell? ⟨B19, 0, none⟩ = some (.pointer none) ∧ Hid (Below x4.heap.size x4 x4.drew) := ⟨q30.1, q30.2.1, q30.2.2.1, hide (q30.2.2.2.out.trans ((drew_below x4).mono q30.2.2.2.out.size))⟩
                refine wp_region_held_drew (S := (fun w' => w'.cell? ⟨B9, 0, none⟩ = some (.pointer pt) ∧ w'.cell? ⟨w3.heap.size, 0, none⟩ = some (.pointer p2) ∧ w'.cell? ⟨B19, 0, none⟩ = some (.pointer none) ∧ Hid (Below x4.heap.size x4 w'))) (by kernel_rfl) qd (fun hHeld => ?_)
                try dsimp only at hHeld
                refine take_op (i := 0) (d := 221) (OP := Op.move (Operand.tmp 20)) (T := 46) (v := ?vzz46) rfl rfl rfl rfl (by kernel_rfl) (by kernel_rfl) (by kernel_rfl) (fun _ _ _ h => h) (by rfl) ?hzz46 hHeld ?rzz46
                case hzz46 => (intro w' hSw; (try dsimp only at hSw); go_simp <;> with_reducible rfl)
                try simp only [Act.put, List.setIfInBounds_toArray, List.set_cons_zero, List.set_cons_succ]
                refine take_op (i := 1) (d := 222) (OP := Op.binOp BinOp.neq 46 (Operand.tmp 221) (Operand.const (Value.int IntKind.i64 0)) 46) (T := 4) (v := ?vzz47) rfl rfl rfl rfl (by kernel_rfl) (by kernel_rfl) (by kernel_rfl) (fun _ _ _ h => h) (by rfl) ?hzz47 hHeld ?rzz47
                case hzz47 => (intro w' hSw; (try dsimp only at hSw); go_simp <;> with_reducible rfl)
                try simp only [Act.put, List.setIfInBounds_toArray, List.set_cons_zero, List.set_cons_succ]
                refine take_op (i := 2) (d := 223) (OP := Op.move (Operand.tmp 222)) (T := 4) (v := ?vzz48) rfl rfl rfl rfl (by kernel_rfl) (by kernel_rfl) (by kernel_rfl) (fun _ _ _ h => h) (by rfl) ?hzz48 hHeld ?rzz48
                case hzz48 => (intro w' hSw; (try dsimp only at hSw); go_simp <;> with_reducible rfl)
                try simp only [Act.put, List.setIfInBounds_toArray, List.set_cons_zero, List.set_cons_succ]
                refine pass_op (i := 3) (d := 224) rfl rfl (by kernel_rfl) (by kernel_rfl) (by kernel_rfl) (fun _ _ _ h => h) (by rfl) hHeld ?_
                try simp only [Act.put, List.setIfInBounds_toArray, List.set_cons_zero, List.set_cons_succ]
                refine pass_op (i := 4) (d := 225) rfl rfl (by kernel_rfl) (by kernel_rfl) (by kernel_rfl) (fun _ _ _ h => h) (by rfl) hHeld ?_
                try simp only [Act.put, List.setIfInBounds_toArray, List.set_cons_zero, List.set_cons_succ]
                refine pass_op (i := 5) (d := 226) rfl rfl (by kernel_rfl) (by kernel_rfl) (by kernel_rfl) (fun _ _ _ h => h) (by rfl) hHeld ?_
                try simp only [Act.put, List.setIfInBounds_toArray, List.set_cons_zero, List.set_cons_succ]
                refine pass_op (i := 6) (d := 227) rfl rfl (by kernel_rfl) (by kernel_rfl) (by kernel_rfl) (fun _ _ _ h => h) (by rfl) hHeld ?_
                try simp only [Act.put, List.setIfInBounds_toArray, List.set_cons_zero, List.set_cons_succ]
                refine pass_op (i := 7) (d := 228) rfl rfl (by kernel_rfl) (by kernel_rfl) (by kernel_rfl) (fun _ _ _ h => h) (by rfl) hHeld ?_
                try simp only [Act.put, List.setIfInBounds_toArray, List.set_cons_zero, List.set_cons_succ]
                refine pass_op (i := 8) (d := 229) rfl rfl (by kernel_rfl) (by kernel_rfl) (by kernel_rfl) (fun _ _ _ h => h) (by rfl) hHeld ?_
                try simp only [Act.put, List.setIfInBounds_toArray, List.set_cons_zero, List.set_cons_succ]
                refine pass_op (i := 9) (d := 230) rfl rfl (by kernel_rfl) (by kernel_rfl) (by kernel_rfl) (fun _ _ _ h => h) (by rfl) hHeld ?_
                try simp only [Act.put, List.setIfInBounds_toArray, List.set_cons_zero, List.set_cons_succ]
                refine pass_op (i := 10) (d := 231) rfl rfl (by kernel_rfl) (by kernel_rfl) (by kernel_rfl) (fun _ _ _ h => h) (by rfl) hHeld ?_
                try simp only [Act.put, List.setIfInBounds_toArray, List.set_cons_zero, List.set_cons_succ]
                refine pass_op (i := 11) (d := 232) rfl rfl (by kernel_rfl) (by kernel_rfl) (by kernel_rfl) (fun _ _ _ h => h) (by rfl) hHeld ?_
                try simp only [Act.put, List.setIfInBounds_toArray, List.set_cons_zero, List.set_cons_succ]
                refine pass_op (i := 12) (d := 233) rfl rfl (by kernel_rfl) (by kernel_rfl) (by kernel_rfl) (fun _ _ _ h => h) (by rfl) hHeld ?_
                try simp only [Act.put, List.setIfInBounds_toArray, List.set_cons_zero, List.set_cons_succ]
                refine pass_op (i := 13) (d := 234) rfl rfl (by kernel_rfl) (by kernel_rfl) (by kernel_rfl) (fun _ _ _ h => h) (by rfl) hHeld ?_
                try simp only [Act.put, List.setIfInBounds_toArray, List.set_cons_zero, List.set_cons_succ]
                refine pass_op (i := 14) (d := 235) rfl rfl (by kernel_rfl) (by kernel_rfl) (by kernel_rfl) (fun _ _ _ h => h) (by rfl) hHeld ?_
                try simp only [Act.put, List.setIfInBounds_toArray, List.set_cons_zero, List.set_cons_succ]
                refine pass_op (i := 15) (d := 236) rfl rfl (by kernel_rfl) (by kernel_rfl) (by kernel_rfl) (fun _ _ _ h => h) (by rfl) hHeld ?_
                try simp only [Act.put, List.setIfInBounds_toArray, List.set_cons_zero, List.set_cons_succ]
                refine pass_op (i := 16) (d := 237) rfl rfl (by kernel_rfl) (by kernel_rfl) (by kernel_rfl) (fun _ _ _ h => h) (by rfl) hHeld ?_
                try simp only [Act.put, List.setIfInBounds_toArray, List.set_cons_zero, List.set_cons_succ]
                refine pass_op (i := 17) (d := 238) rfl rfl (by kernel_rfl) (by kernel_rfl) (by kernel_rfl) (fun _ _ _ h => h) (by rfl) hHeld ?_
                try simp only [Act.put, List.setIfInBounds_toArray, List.set_cons_zero, List.set_cons_succ]
                refine pass_op (i := 18) (d := 239) rfl rfl (by kernel_rfl) (by kernel_rfl) (by kernel_rfl) (fun _ _ _ h => h) (by rfl) hHeld ?_
                try simp only [Act.put, List.setIfInBounds_toArray, List.set_cons_zero, List.set_cons_succ]
                refine pass_op (i := 19) (d := 240) rfl rfl (by kernel_rfl) (by kernel_rfl) (by kernel_rfl) (fun _ _ _ h => h) (by rfl) hHeld ?_
                try simp only [Act.put, List.setIfInBounds_toArray, List.set_cons_zero, List.set_cons_succ]
                refine pass_op (i := 20) (d := 241) rfl rfl (by kernel_rfl) (by kernel_rfl) (by kernel_rfl) (fun _ _ _ h => h) (by rfl) hHeld ?_
                try simp only [Act.put, List.setIfInBounds_toArray, List.set_cons_zero, List.set_cons_succ]
                refine pass_op (i := 21) (d := 242) rfl rfl (by kernel_rfl) (by kernel_rfl) (by kernel_rfl) (fun _ _ _ h => h) (by rfl) hHeld ?_
                try simp only [Act.put, List.setIfInBounds_toArray, List.set_cons_zero, List.set_cons_succ]
                refine pass_op (i := 22) (d := 243) rfl rfl (by kernel_rfl) (by kernel_rfl) (by kernel_rfl) (fun _ _ _ h => h) (by rfl) hHeld ?_
                try simp only [Act.put, List.setIfInBounds_toArray, List.set_cons_zero, List.set_cons_succ]
                refine pass_op (i := 23) (d := 244) rfl rfl (by kernel_rfl) (by kernel_rfl) (by kernel_rfl) (fun _ _ _ h => h) (by rfl) hHeld ?_
                try simp only [Act.put, List.setIfInBounds_toArray, List.set_cons_zero, List.set_cons_succ]
                refine pass_op (i := 24) (d := 245) rfl rfl (by kernel_rfl) (by kernel_rfl) (by kernel_rfl) (fun _ _ _ h => h) (by rfl) hHeld ?_
                try simp only [Act.put, List.setIfInBounds_toArray, List.set_cons_zero, List.set_cons_succ]
                refine pass_op (i := 25) (d := 246) rfl rfl (by kernel_rfl) (by kernel_rfl) (by kernel_rfl) (fun _ _ _ h => h) (by rfl) hHeld ?_
                try simp only [Act.put, List.setIfInBounds_toArray, List.set_cons_zero, List.set_cons_succ]
                refine pass_op (i := 26) (d := 247) rfl rfl (by kernel_rfl) (by kernel_rfl) (by kernel_rfl) (fun _ _ _ h => h) (by rfl) hHeld ?_
                try simp only [Act.put, List.setIfInBounds_toArray, List.set_cons_zero, List.set_cons_succ]
                refine pass_op (i := 27) (d := 248) rfl rfl (by kernel_rfl) (by kernel_rfl) (by kernel_rfl) (fun _ _ _ h => h) (by rfl) hHeld ?_
                try simp only [Act.put, List.setIfInBounds_toArray, List.set_cons_zero, List.set_cons_succ]
                refine pass_op (i := 28) (d := 249) rfl rfl (by kernel_rfl) (by kernel_rfl) (by kernel_rfl) (fun _ _ _ h => h) (by rfl) hHeld ?_
                try simp only [Act.put, List.setIfInBounds_toArray, List.set_cons_zero, List.set_cons_succ]
                refine pass_op (i := 29) (d := 250) rfl rfl (by kernel_rfl) (by kernel_rfl) (by kernel_rfl) (fun _ _ _ h => h) (by rfl) hHeld ?_
                try simp only [Act.put, List.setIfInBounds_toArray, List.set_cons_zero, List.set_cons_succ]
                refine pass_op (i := 30) (d := 251) rfl rfl (by kernel_rfl) (by kernel_rfl) (by kernel_rfl) (fun _ _ _ h => h) (by rfl) hHeld ?_
                try simp only [Act.put, List.setIfInBounds_toArray, List.set_cons_zero, List.set_cons_succ]
                refine pass_op (i := 31) (d := 252) rfl rfl (by kernel_rfl) (by kernel_rfl) (by kernel_rfl) (fun _ _ _ h => h) (by rfl) hHeld ?_
                try simp only [Act.put, List.setIfInBounds_toArray, List.set_cons_zero, List.set_cons_succ]
                refine pass_op (i := 32) (d := 253) rfl rfl (by kernel_rfl) (by kernel_rfl) (by kernel_rfl) (fun _ _ _ h => h) (by rfl) hHeld ?_
                try simp only [Act.put, List.setIfInBounds_toArray, List.set_cons_zero, List.set_cons_succ]
                refine pass_op (i := 33) (d := 254) rfl rfl (by kernel_rfl) (by kernel_rfl) (by kernel_rfl) (fun _ _ _ h => h) (by rfl) hHeld ?_
                try simp only [Act.put, List.setIfInBounds_toArray, List.set_cons_zero, List.set_cons_succ]
                refine pass_op (i := 34) (d := 255) rfl rfl (by kernel_rfl) (by kernel_rfl) (by kernel_rfl) (fun _ _ _ h => h) (by rfl) hHeld ?_
                try simp only [Act.put, List.setIfInBounds_toArray, List.set_cons_zero, List.set_cons_succ]
                refine pass_op (i := 35) (d := 256) rfl rfl (by kernel_rfl) (by kernel_rfl) (by kernel_rfl) (fun _ _ _ h => h) (by rfl) hHeld ?_
                try simp only [Act.put, List.setIfInBounds_toArray, List.set_cons_zero, List.set_cons_succ]
                refine take_op (i := 36) (d := 257) (OP := Op.pick (Operand.tmp 223) (Operand.const (Value.bool true)) (Operand.tmp 256)) (T := 4) (v := ?vzz49) rfl rfl rfl rfl (by kernel_rfl) (by kernel_rfl) (by kernel_rfl) (fun _ _ _ h => h) (by rfl) ?hzz49 hHeld ?rzz49
                case hzz49 => (intro w' hSw; (try dsimp only at hSw); go_simp <;> with_reducible rfl)
                try simp only [Act.put, List.setIfInBounds_toArray, List.set_cons_zero, List.set_cons_succ]
                refine take_op (i := 37) (d := 258) (OP := Op.move (Operand.tmp 257)) (T := 4) (v := ?vzz50) rfl rfl rfl rfl (by kernel_rfl) (by kernel_rfl) (by kernel_rfl) (fun _ _ _ h => h) (by rfl) ?hzz50 hHeld ?rzz50
                case hzz50 => (intro w' hSw; (try dsimp only at hSw); go_simp <;> with_reducible rfl)
                try simp only [Act.put, List.setIfInBounds_toArray, List.set_cons_zero, List.set_cons_succ]
                refine call_op (i := 38) (d := 259) (OP := Op.call { callee := Callee.value (Operand.func 7), args := #[], argTypes := #[] }) (T := 4) (f := 7) (args := #[]) rfl rfl rfl rfl (by kernel_rfl) (by rfl) (by go_simp) ?_
                refine (known_any _).mono ?_
                rintro e u1w ⟨rfl, bu1w⟩
                have qu1w : u1w.cell? ⟨B9, 0, none⟩ = some (.pointer pt) ∧ u1w.cell? ⟨w3.heap.size, 0, none⟩ = some (.pointer p2) ∧ u1w.cell? ⟨B19, 0, none⟩ = some (.pointer none) ∧ Hid (Below x4.heap.size x4 u1w) := ⟨cell_stays qd.1 bu1w, cell_stays qd.2.1 bu1w, cell_stays qd.2.2.1 bu1w, hide (qd.2.2.2.out.trans (bu1w.mono qd.2.2.2.out.size))⟩
                refine ⟨_, rfl, qu1w, ?_⟩
                replace hHeld := qu1w
                try simp only [Act.put, List.setIfInBounds_toArray, List.set_cons_zero, List.set_cons_succ]
                refine take_op (i := 39) (d := 260) (OP := Op.pick (Operand.tmp 258) (Operand.tmp 259) (Operand.const (Value.bool false))) (T := 4) (v := ?vzz51) rfl rfl rfl rfl (by kernel_rfl) (by kernel_rfl) (by kernel_rfl) (fun _ _ _ h => h) (by rfl) ?hzz51 hHeld ?rzz51
                case hzz51 => (intro w' hSw; (try dsimp only at hSw); go_simp <;> with_reducible rfl)
                try simp only [Act.put, List.setIfInBounds_toArray, List.set_cons_zero, List.set_cons_succ]
                refine take_op (i := 40) (d := 8) (OP := Op.assign (Operand.tmp 260)) (T := 4) (v := ?vzz52) rfl rfl rfl rfl (by kernel_rfl) (by kernel_rfl) (by kernel_rfl) (fun _ _ _ h => h) (by rfl) ?hzz52 hHeld ?rzz52
                case hzz52 => (intro w' hSw; (try dsimp only at hSw); go_simp <;> with_reducible rfl)
                try simp only [Act.put, List.setIfInBounds_toArray, List.set_cons_zero, List.set_cons_succ]
                refine wpAnyH_done (by kernel_rfl) ?_ _
                have hfin : Below w.heap.size w u1w := by
                  have h0 := HG3.out.2.2.1
                  have h1 := h0.trans (HL.out.below.mono h0.size)
                  have h2 := h1.trans (HB4.out.1.mono h1.size)
                  have h3 := h2.trans ((Below.refl _ x4).mono h2.size)
                  exact h3.trans (qu1w.2.2.2.out.mono h3.size)
                go_wp2
                go_ret
                exact ⟨by simp, hfin⟩
              | true =>
                by_cases hn1 : t2.h + 2 ≤ t.h
                · skip
                  as_aux_lemma =>
                  have hMB : MB = false := by rw [← HK12.out.1]; unfold makesB; rw [hF]; rw [decide_eq_false (show ¬ t.h ≤ t2.h + 1 by omega)]; rfl
                  subst hMB
                  have e1 : K1 = 0 := by rw [HK12.out.2.1]; rfl
                  have e2 : K2 = 2 := by rw [HK12.out.2.2]; rfl
                  subst e1 e2
                  obtain ⟨c9, c14, c18, c19, H8⟩ := qw8
                  have HC := hide (And.intro c9 (And.intro c14 (And.intro c18 c19)))
                  have zd1 : ¬ ((t.h : Int) - (t2.h : Int) < 2) := by omega
                  have zd2 : decide ((t.h : Int) - (t2.h : Int) < 2) = false := by simpa using zd1
                  have D8 : Hid (Below wr.heap.size wr w8 ∧ In w8 x ∧ In w8 y) := hide ⟨bwc.trans (H8.out.mono bwc.size), In.below H8.out (In.below HY.out.2.2.2 H6.out.2), In.below H8.out HY.out.2.2.1⟩
                  have cl := fun W => mLen_any .nil W trivial
                  unfold mv at cl
                  simp only [T.ptr, T.n] at cl
                  have hpy0 : py = none := by have h1 := HY.out.1; have h2 : y = .nil := HY.out.2.1.2 rfl; rw [h2] at h1; simpa [T.ptr] using h1.symm
                  subst hpy0
                  clear cHa cHb q24 qd qw7 hHeld
                  go_upto_region 27 with (go_at_call 19; refine (cl _).mono ?_; rintro e q2 ⟨rfl, bq2⟩; replace bq2 := hide bq2; dsimp only)
                  have bz : Below wr.heap.size wr q2 := D8.out.1.trans (bq2.out.mono D8.out.1.size)
                  obtain ⟨a1, cc1, x2, a2, cc2, x3, a3, cc3, x4, r1, r2, r3, es4, b4⟩ := app_three (key := key) (HF.out.2.1.below bz) (HF.out.2.2.below bz) (by omega) (by omega)
                  have HE4 := hide (And.intro es4 b4)
                  have b84 : Below w8.heap.size w8 x4 := bq2.out.trans (b4.mono bq2.out.size)
                  have c9 := cell_stays HC.out.1 b84
                  have c14 := cell_stays HC.out.2.1 b84
                  have c18 := cell_stays HC.out.2.2.1 b84
                  have c19 := cell_stays HC.out.2.2.2 b84
                  have ix4 := In.below b84 D8.out.2.1
                  have iy4 := In.below b84 D8.out.2.2
                  have HB4 := hide (And.intro (D8.out.1.trans (b84.mono D8.out.1.size)) b84)
                  clear b4 b84 bz es4 cl
                  have hL4b : (t.list ++ (key, (7 : Int)) :: t2.list).length ≤ 100 := by simp only [List.length_append, List.length_cons]; omega
                  generalize hL4 : (t.list ++ (key, 7) :: t2.list).length = L4 at *
                  generalize t.list.length = L12 at *
                  generalize t2.list.length = L15 at *
                  clear hl12 hl15
                  have hjg := join_good (H5.out.2.1.1 rfl) HG3.out.1.bal HL.out.bal HG3.out.1.srt HL.out.srt hF
                  have ctx : Calls Try.prog 17 #[.agg #[.pointer px], .slice a3 L4 cc3, .int .i64 2, .string key] x4 fun e w' => e = .returned (.bool true) ∧ Below x4.heap.size x4 w' := by
                    have := tells_any x (.slice a3 L4 cc3) 2 key x4 ⟨ix4, hjg.1, hjg.2.1, by rw [← T.n_eq, hjg.2.2, hL4]; omega⟩ (by rw [hjg.2.2]; exact HE4.out.1)
                    rw [show mv x = .agg #[.pointer px] from by unfold mv; rw [H5.out.1]] at this
                    exact this
                  go_upto_region 30 with (first
                    | (at_builtin; refine wpList_turn (OP := .call { callee := .builtin .append, args := #[.const (.slice none 0 0), .tmp 204], argTypes := #[27, 27] }) (T := 27) rfl rfl rfl (exec_append rfl rfl r1) ?_)
                    | (at_builtin; refine wpList_turn (OP := .call { callee := .builtin .append, args := #[.tmp 205, .tmp 208], argTypes := #[27, 27] }) (T := 27) rfl rfl rfl (exec_append rfl rfl r2) ?_)
                    | (at_builtin; refine wpList_turn (OP := .call { callee := .builtin .append, args := #[.tmp 209, .tmp 210], argTypes := #[27, 27] }) (T := 27) rfl rfl rfl (exec_append rfl rfl r3) ?_)
                    | (go_at_call 17; refine ctx.mono ?_; rintro e v5 ⟨rfl, b5⟩; have c9 := cell_stays c9 b5; have c14 := cell_stays c14 b5; have c19 := cell_stays c19 b5; have iy5 := In.below b5 iy4; replace b5 := hide b5; dsimp only))
                  have q30 : v5.cell? ⟨B9, 0, none⟩ = some (.pointer pt) ∧ v5.cell? ⟨w3.heap.size, 0, none⟩ = some (.pointer p2) ∧ v5.cell? ⟨B19, 0, none⟩ = some (.pointer none) ∧ Hid (Below v5.heap.size v5 v5) := ⟨c9, c14, c19, hide (Below.refl _ _)⟩
                  clear c9 c14 c18 c19 r1 r2 r3 ix4
                  have qd : v5.drew.cell? ⟨B9, 0, none⟩ = some (.pointer pt) ∧ v5.drew.cell? ⟨w3.heap.size, 0, none⟩ = some (.pointer p2) ∧ v5.drew.cell? ⟨B19, 0, none⟩ = some (.pointer none) ∧ Hid (Below v5.heap.size v5 v5.drew) := ⟨q30.1, q30.2.1, q30.2.2.1, hide (q30.2.2.2.out.trans ((drew_below v5).mono q30.2.2.2.out.size))⟩
                  refine wp_region_held_drew (S := (fun w' => w'.cell? ⟨B9, 0, none⟩ = some (.pointer pt) ∧ w'.cell? ⟨w3.heap.size, 0, none⟩ = some (.pointer p2) ∧ w'.cell? ⟨B19, 0, none⟩ = some (.pointer none) ∧ Hid (Below v5.heap.size v5 w'))) (by kernel_rfl) qd (fun hHeld => ?_)
                  try dsimp only at hHeld
                  refine take_op (i := 0) (d := 221) (OP := Op.move (Operand.tmp 20)) (T := 46) (v := ?vzz53) rfl rfl rfl rfl (by kernel_rfl) (by kernel_rfl) (by kernel_rfl) (fun _ _ _ h => h) (by rfl) ?hzz53 hHeld ?rzz53
                  case hzz53 => (intro w' hSw; (try dsimp only at hSw); go_simp <;> with_reducible rfl)
                  try simp only [Act.put, List.setIfInBounds_toArray, List.set_cons_zero, List.set_cons_succ]
                  refine take_op (i := 1) (d := 222) (OP := Op.binOp BinOp.neq 46 (Operand.tmp 221) (Operand.const (Value.int IntKind.i64 0)) 46) (T := 4) (v := ?vzz54) rfl rfl rfl rfl (by kernel_rfl) (by kernel_rfl) (by kernel_rfl) (fun _ _ _ h => h) (by rfl) ?hzz54 hHeld ?rzz54
                  case hzz54 => (intro w' hSw; (try dsimp only at hSw); go_simp <;> with_reducible rfl)
                  try simp only [Act.put, List.setIfInBounds_toArray, List.set_cons_zero, List.set_cons_succ]
                  refine take_op (i := 2) (d := 223) (OP := Op.move (Operand.tmp 222)) (T := 4) (v := ?vzz55) rfl rfl rfl rfl (by kernel_rfl) (by kernel_rfl) (by kernel_rfl) (fun _ _ _ h => h) (by rfl) ?hzz55 hHeld ?rzz55
                  case hzz55 => (intro w' hSw; (try dsimp only at hSw); go_simp <;> with_reducible rfl)
                  try simp only [Act.put, List.setIfInBounds_toArray, List.set_cons_zero, List.set_cons_succ]
                  refine pass_op (i := 3) (d := 224) rfl rfl (by kernel_rfl) (by kernel_rfl) (by kernel_rfl) (fun _ _ _ h => h) (by rfl) hHeld ?_
                  try simp only [Act.put, List.setIfInBounds_toArray, List.set_cons_zero, List.set_cons_succ]
                  refine pass_op (i := 4) (d := 225) rfl rfl (by kernel_rfl) (by kernel_rfl) (by kernel_rfl) (fun _ _ _ h => h) (by rfl) hHeld ?_
                  try simp only [Act.put, List.setIfInBounds_toArray, List.set_cons_zero, List.set_cons_succ]
                  refine pass_op (i := 5) (d := 226) rfl rfl (by kernel_rfl) (by kernel_rfl) (by kernel_rfl) (fun _ _ _ h => h) (by rfl) hHeld ?_
                  try simp only [Act.put, List.setIfInBounds_toArray, List.set_cons_zero, List.set_cons_succ]
                  refine pass_op (i := 6) (d := 227) rfl rfl (by kernel_rfl) (by kernel_rfl) (by kernel_rfl) (fun _ _ _ h => h) (by rfl) hHeld ?_
                  try simp only [Act.put, List.setIfInBounds_toArray, List.set_cons_zero, List.set_cons_succ]
                  refine pass_op (i := 7) (d := 228) rfl rfl (by kernel_rfl) (by kernel_rfl) (by kernel_rfl) (fun _ _ _ h => h) (by rfl) hHeld ?_
                  try simp only [Act.put, List.setIfInBounds_toArray, List.set_cons_zero, List.set_cons_succ]
                  refine pass_op (i := 8) (d := 229) rfl rfl (by kernel_rfl) (by kernel_rfl) (by kernel_rfl) (fun _ _ _ h => h) (by rfl) hHeld ?_
                  try simp only [Act.put, List.setIfInBounds_toArray, List.set_cons_zero, List.set_cons_succ]
                  refine pass_op (i := 9) (d := 230) rfl rfl (by kernel_rfl) (by kernel_rfl) (by kernel_rfl) (fun _ _ _ h => h) (by rfl) hHeld ?_
                  try simp only [Act.put, List.setIfInBounds_toArray, List.set_cons_zero, List.set_cons_succ]
                  refine pass_op (i := 10) (d := 231) rfl rfl (by kernel_rfl) (by kernel_rfl) (by kernel_rfl) (fun _ _ _ h => h) (by rfl) hHeld ?_
                  try simp only [Act.put, List.setIfInBounds_toArray, List.set_cons_zero, List.set_cons_succ]
                  refine pass_op (i := 11) (d := 232) rfl rfl (by kernel_rfl) (by kernel_rfl) (by kernel_rfl) (fun _ _ _ h => h) (by rfl) hHeld ?_
                  try simp only [Act.put, List.setIfInBounds_toArray, List.set_cons_zero, List.set_cons_succ]
                  refine pass_op (i := 12) (d := 233) rfl rfl (by kernel_rfl) (by kernel_rfl) (by kernel_rfl) (fun _ _ _ h => h) (by rfl) hHeld ?_
                  try simp only [Act.put, List.setIfInBounds_toArray, List.set_cons_zero, List.set_cons_succ]
                  refine pass_op (i := 13) (d := 234) rfl rfl (by kernel_rfl) (by kernel_rfl) (by kernel_rfl) (fun _ _ _ h => h) (by rfl) hHeld ?_
                  try simp only [Act.put, List.setIfInBounds_toArray, List.set_cons_zero, List.set_cons_succ]
                  refine pass_op (i := 14) (d := 235) rfl rfl (by kernel_rfl) (by kernel_rfl) (by kernel_rfl) (fun _ _ _ h => h) (by rfl) hHeld ?_
                  try simp only [Act.put, List.setIfInBounds_toArray, List.set_cons_zero, List.set_cons_succ]
                  refine pass_op (i := 15) (d := 236) rfl rfl (by kernel_rfl) (by kernel_rfl) (by kernel_rfl) (fun _ _ _ h => h) (by rfl) hHeld ?_
                  try simp only [Act.put, List.setIfInBounds_toArray, List.set_cons_zero, List.set_cons_succ]
                  refine pass_op (i := 16) (d := 237) rfl rfl (by kernel_rfl) (by kernel_rfl) (by kernel_rfl) (fun _ _ _ h => h) (by rfl) hHeld ?_
                  try simp only [Act.put, List.setIfInBounds_toArray, List.set_cons_zero, List.set_cons_succ]
                  refine pass_op (i := 17) (d := 238) rfl rfl (by kernel_rfl) (by kernel_rfl) (by kernel_rfl) (fun _ _ _ h => h) (by rfl) hHeld ?_
                  try simp only [Act.put, List.setIfInBounds_toArray, List.set_cons_zero, List.set_cons_succ]
                  refine pass_op (i := 18) (d := 239) rfl rfl (by kernel_rfl) (by kernel_rfl) (by kernel_rfl) (fun _ _ _ h => h) (by rfl) hHeld ?_
                  try simp only [Act.put, List.setIfInBounds_toArray, List.set_cons_zero, List.set_cons_succ]
                  refine pass_op (i := 19) (d := 240) rfl rfl (by kernel_rfl) (by kernel_rfl) (by kernel_rfl) (fun _ _ _ h => h) (by rfl) hHeld ?_
                  try simp only [Act.put, List.setIfInBounds_toArray, List.set_cons_zero, List.set_cons_succ]
                  refine pass_op (i := 20) (d := 241) rfl rfl (by kernel_rfl) (by kernel_rfl) (by kernel_rfl) (fun _ _ _ h => h) (by rfl) hHeld ?_
                  try simp only [Act.put, List.setIfInBounds_toArray, List.set_cons_zero, List.set_cons_succ]
                  refine pass_op (i := 21) (d := 242) rfl rfl (by kernel_rfl) (by kernel_rfl) (by kernel_rfl) (fun _ _ _ h => h) (by rfl) hHeld ?_
                  try simp only [Act.put, List.setIfInBounds_toArray, List.set_cons_zero, List.set_cons_succ]
                  refine pass_op (i := 22) (d := 243) rfl rfl (by kernel_rfl) (by kernel_rfl) (by kernel_rfl) (fun _ _ _ h => h) (by rfl) hHeld ?_
                  try simp only [Act.put, List.setIfInBounds_toArray, List.set_cons_zero, List.set_cons_succ]
                  refine pass_op (i := 23) (d := 244) rfl rfl (by kernel_rfl) (by kernel_rfl) (by kernel_rfl) (fun _ _ _ h => h) (by rfl) hHeld ?_
                  try simp only [Act.put, List.setIfInBounds_toArray, List.set_cons_zero, List.set_cons_succ]
                  refine pass_op (i := 24) (d := 245) rfl rfl (by kernel_rfl) (by kernel_rfl) (by kernel_rfl) (fun _ _ _ h => h) (by rfl) hHeld ?_
                  try simp only [Act.put, List.setIfInBounds_toArray, List.set_cons_zero, List.set_cons_succ]
                  refine pass_op (i := 25) (d := 246) rfl rfl (by kernel_rfl) (by kernel_rfl) (by kernel_rfl) (fun _ _ _ h => h) (by rfl) hHeld ?_
                  try simp only [Act.put, List.setIfInBounds_toArray, List.set_cons_zero, List.set_cons_succ]
                  refine pass_op (i := 26) (d := 247) rfl rfl (by kernel_rfl) (by kernel_rfl) (by kernel_rfl) (fun _ _ _ h => h) (by rfl) hHeld ?_
                  try simp only [Act.put, List.setIfInBounds_toArray, List.set_cons_zero, List.set_cons_succ]
                  refine pass_op (i := 27) (d := 248) rfl rfl (by kernel_rfl) (by kernel_rfl) (by kernel_rfl) (fun _ _ _ h => h) (by rfl) hHeld ?_
                  try simp only [Act.put, List.setIfInBounds_toArray, List.set_cons_zero, List.set_cons_succ]
                  refine pass_op (i := 28) (d := 249) rfl rfl (by kernel_rfl) (by kernel_rfl) (by kernel_rfl) (fun _ _ _ h => h) (by rfl) hHeld ?_
                  try simp only [Act.put, List.setIfInBounds_toArray, List.set_cons_zero, List.set_cons_succ]
                  refine pass_op (i := 29) (d := 250) rfl rfl (by kernel_rfl) (by kernel_rfl) (by kernel_rfl) (fun _ _ _ h => h) (by rfl) hHeld ?_
                  try simp only [Act.put, List.setIfInBounds_toArray, List.set_cons_zero, List.set_cons_succ]
                  refine pass_op (i := 30) (d := 251) rfl rfl (by kernel_rfl) (by kernel_rfl) (by kernel_rfl) (fun _ _ _ h => h) (by rfl) hHeld ?_
                  try simp only [Act.put, List.setIfInBounds_toArray, List.set_cons_zero, List.set_cons_succ]
                  refine pass_op (i := 31) (d := 252) rfl rfl (by kernel_rfl) (by kernel_rfl) (by kernel_rfl) (fun _ _ _ h => h) (by rfl) hHeld ?_
                  try simp only [Act.put, List.setIfInBounds_toArray, List.set_cons_zero, List.set_cons_succ]
                  refine pass_op (i := 32) (d := 253) rfl rfl (by kernel_rfl) (by kernel_rfl) (by kernel_rfl) (fun _ _ _ h => h) (by rfl) hHeld ?_
                  try simp only [Act.put, List.setIfInBounds_toArray, List.set_cons_zero, List.set_cons_succ]
                  refine pass_op (i := 33) (d := 254) rfl rfl (by kernel_rfl) (by kernel_rfl) (by kernel_rfl) (fun _ _ _ h => h) (by rfl) hHeld ?_
                  try simp only [Act.put, List.setIfInBounds_toArray, List.set_cons_zero, List.set_cons_succ]
                  refine pass_op (i := 34) (d := 255) rfl rfl (by kernel_rfl) (by kernel_rfl) (by kernel_rfl) (fun _ _ _ h => h) (by rfl) hHeld ?_
                  try simp only [Act.put, List.setIfInBounds_toArray, List.set_cons_zero, List.set_cons_succ]
                  refine pass_op (i := 35) (d := 256) rfl rfl (by kernel_rfl) (by kernel_rfl) (by kernel_rfl) (fun _ _ _ h => h) (by rfl) hHeld ?_
                  try simp only [Act.put, List.setIfInBounds_toArray, List.set_cons_zero, List.set_cons_succ]
                  refine take_op (i := 36) (d := 257) (OP := Op.pick (Operand.tmp 223) (Operand.const (Value.bool true)) (Operand.tmp 256)) (T := 4) (v := ?vzz56) rfl rfl rfl rfl (by kernel_rfl) (by kernel_rfl) (by kernel_rfl) (fun _ _ _ h => h) (by rfl) ?hzz56 hHeld ?rzz56
                  case hzz56 => (intro w' hSw; (try dsimp only at hSw); go_simp <;> with_reducible rfl)
                  try simp only [Act.put, List.setIfInBounds_toArray, List.set_cons_zero, List.set_cons_succ]
                  refine take_op (i := 37) (d := 258) (OP := Op.move (Operand.tmp 257)) (T := 4) (v := ?vzz57) rfl rfl rfl rfl (by kernel_rfl) (by kernel_rfl) (by kernel_rfl) (fun _ _ _ h => h) (by rfl) ?hzz57 hHeld ?rzz57
                  case hzz57 => (intro w' hSw; (try dsimp only at hSw); go_simp <;> with_reducible rfl)
                  try simp only [Act.put, List.setIfInBounds_toArray, List.set_cons_zero, List.set_cons_succ]
                  refine call_op (i := 38) (d := 259) (OP := Op.call { callee := Callee.value (Operand.func 7), args := #[], argTypes := #[] }) (T := 4) (f := 7) (args := #[]) rfl rfl rfl rfl (by kernel_rfl) (by rfl) (by go_simp) ?_
                  refine (known_any _).mono ?_
                  rintro e u1w ⟨rfl, bu1w⟩
                  have qu1w : u1w.cell? ⟨B9, 0, none⟩ = some (.pointer pt) ∧ u1w.cell? ⟨w3.heap.size, 0, none⟩ = some (.pointer p2) ∧ u1w.cell? ⟨B19, 0, none⟩ = some (.pointer none) ∧ Hid (Below v5.heap.size v5 u1w) := ⟨cell_stays qd.1 bu1w, cell_stays qd.2.1 bu1w, cell_stays qd.2.2.1 bu1w, hide (qd.2.2.2.out.trans (bu1w.mono qd.2.2.2.out.size))⟩
                  refine ⟨_, rfl, qu1w, ?_⟩
                  replace hHeld := qu1w
                  try simp only [Act.put, List.setIfInBounds_toArray, List.set_cons_zero, List.set_cons_succ]
                  refine take_op (i := 39) (d := 260) (OP := Op.pick (Operand.tmp 258) (Operand.tmp 259) (Operand.const (Value.bool false))) (T := 4) (v := ?vzz58) rfl rfl rfl rfl (by kernel_rfl) (by kernel_rfl) (by kernel_rfl) (fun _ _ _ h => h) (by rfl) ?hzz58 hHeld ?rzz58
                  case hzz58 => (intro w' hSw; (try dsimp only at hSw); go_simp <;> with_reducible rfl)
                  try simp only [Act.put, List.setIfInBounds_toArray, List.set_cons_zero, List.set_cons_succ]
                  refine take_op (i := 40) (d := 8) (OP := Op.assign (Operand.tmp 260)) (T := 4) (v := ?vzz59) rfl rfl rfl rfl (by kernel_rfl) (by kernel_rfl) (by kernel_rfl) (fun _ _ _ h => h) (by rfl) ?hzz59 hHeld ?rzz59
                  case hzz59 => (intro w' hSw; (try dsimp only at hSw); go_simp <;> with_reducible rfl)
                  try simp only [Act.put, List.setIfInBounds_toArray, List.set_cons_zero, List.set_cons_succ]
                  refine wpAnyH_done (by kernel_rfl) ?_ _
                  have hfin : Below w.heap.size w u1w := by
                    have h0 := HG3.out.2.2.1
                    have h1 := h0.trans (HL.out.below.mono h0.size)
                    have h2 := h1.trans (HB4.out.1.mono h1.size)
                    have h3 := h2.trans (b5.out.mono h2.size)
                    exact h3.trans (qu1w.2.2.2.out.mono h3.size)
                  go_wp2
                  go_ret
                  exact ⟨by simp, hfin⟩
                by_cases hn2 : t.h + 2 ≤ t2.h
                · skip
                  as_aux_lemma =>
                  have hMB : MB = false := by rw [← HK12.out.1]; unfold makesB; rw [hF]; rw [decide_eq_false (show ¬ t2.h ≤ t.h + 1 by omega)]; simp
                  subst hMB
                  have e1 : K1 = 0 := by rw [HK12.out.2.1]; rfl
                  have e2 : K2 = 2 := by rw [HK12.out.2.2]; rfl
                  subst e1 e2
                  obtain ⟨c9, c14, c18, c19, H8⟩ := qw8
                  have HC := hide (And.intro c9 (And.intro c14 (And.intro c18 c19)))
                  have zd0 : (t.h : Int) - (t2.h : Int) < 2 := by omega
                  have zd1 : ¬ (-2 < (t.h : Int) - (t2.h : Int)) := by omega
                  have zd2 : decide (-2 < (t.h : Int) - (t2.h : Int)) = false := by simpa using zd1
                  have D8 : Hid (Below wr.heap.size wr w8 ∧ In w8 x ∧ In w8 y) := hide ⟨bwc.trans (H8.out.mono bwc.size), In.below H8.out (In.below HY.out.2.2.2 H6.out.2), In.below H8.out HY.out.2.2.1⟩
                  have cl := fun W => mLen_any .nil W trivial
                  unfold mv at cl
                  simp only [T.ptr, T.n] at cl
                  have hpy0 : py = none := by have h1 := HY.out.1; have h2 : y = .nil := HY.out.2.1.2 rfl; rw [h2] at h1; simpa [T.ptr] using h1.symm
                  subst hpy0
                  clear cHa cHb q24 qd qw7 hHeld
                  go_upto_region 27 with (go_at_call 19; refine (cl _).mono ?_; rintro e q2 ⟨rfl, bq2⟩; replace bq2 := hide bq2; dsimp only)
                  have bz : Below wr.heap.size wr q2 := D8.out.1.trans (bq2.out.mono D8.out.1.size)
                  obtain ⟨a1, cc1, x2, a2, cc2, x3, a3, cc3, x4, r1, r2, r3, es4, b4⟩ := app_three (key := key) (HF.out.2.1.below bz) (HF.out.2.2.below bz) (by omega) (by omega)
                  have HE4 := hide (And.intro es4 b4)
                  have b84 : Below w8.heap.size w8 x4 := bq2.out.trans (b4.mono bq2.out.size)
                  have c9 := cell_stays HC.out.1 b84
                  have c14 := cell_stays HC.out.2.1 b84
                  have c18 := cell_stays HC.out.2.2.1 b84
                  have c19 := cell_stays HC.out.2.2.2 b84
                  have ix4 := In.below b84 D8.out.2.1
                  have iy4 := In.below b84 D8.out.2.2
                  have HB4 := hide (And.intro (D8.out.1.trans (b84.mono D8.out.1.size)) b84)
                  clear b4 b84 bz es4 cl
                  have hL4b : (t.list ++ (key, (7 : Int)) :: t2.list).length ≤ 100 := by simp only [List.length_append, List.length_cons]; omega
                  generalize hL4 : (t.list ++ (key, 7) :: t2.list).length = L4 at *
                  generalize t.list.length = L12 at *
                  generalize t2.list.length = L15 at *
                  clear hl12 hl15
                  have hjg := join_good (H5.out.2.1.1 rfl) HG3.out.1.bal HL.out.bal HG3.out.1.srt HL.out.srt hF
                  have ctx : Calls Try.prog 17 #[.agg #[.pointer px], .slice a3 L4 cc3, .int .i64 2, .string key] x4 fun e w' => e = .returned (.bool true) ∧ Below x4.heap.size x4 w' := by
                    have := tells_any x (.slice a3 L4 cc3) 2 key x4 ⟨ix4, hjg.1, hjg.2.1, by rw [← T.n_eq, hjg.2.2, hL4]; omega⟩ (by rw [hjg.2.2]; exact HE4.out.1)
                    rw [show mv x = .agg #[.pointer px] from by unfold mv; rw [H5.out.1]] at this
                    exact this
                  go_upto_region 30 with (first
                    | (at_builtin; refine wpList_turn (OP := .call { callee := .builtin .append, args := #[.const (.slice none 0 0), .tmp 204], argTypes := #[27, 27] }) (T := 27) rfl rfl rfl (exec_append rfl rfl r1) ?_)
                    | (at_builtin; refine wpList_turn (OP := .call { callee := .builtin .append, args := #[.tmp 205, .tmp 208], argTypes := #[27, 27] }) (T := 27) rfl rfl rfl (exec_append rfl rfl r2) ?_)
                    | (at_builtin; refine wpList_turn (OP := .call { callee := .builtin .append, args := #[.tmp 209, .tmp 210], argTypes := #[27, 27] }) (T := 27) rfl rfl rfl (exec_append rfl rfl r3) ?_)
                    | (go_at_call 17; refine ctx.mono ?_; rintro e v5 ⟨rfl, b5⟩; have c9 := cell_stays c9 b5; have c14 := cell_stays c14 b5; have c19 := cell_stays c19 b5; have iy5 := In.below b5 iy4; replace b5 := hide b5; dsimp only))
                  have q30 : v5.cell? ⟨B9, 0, none⟩ = some (.pointer pt) ∧ v5.cell? ⟨w3.heap.size, 0, none⟩ = some (.pointer p2) ∧ v5.cell? ⟨B19, 0, none⟩ = some (.pointer none) ∧ Hid (Below v5.heap.size v5 v5) := ⟨c9, c14, c19, hide (Below.refl _ _)⟩
                  clear c9 c14 c18 c19 r1 r2 r3 ix4
                  have qd : v5.drew.cell? ⟨B9, 0, none⟩ = some (.pointer pt) ∧ v5.drew.cell? ⟨w3.heap.size, 0, none⟩ = some (.pointer p2) ∧ v5.drew.cell? ⟨B19, 0, none⟩ = some (.pointer none) ∧ Hid (Below v5.heap.size v5 v5.drew) := ⟨q30.1, q30.2.1, q30.2.2.1, hide (q30.2.2.2.out.trans ((drew_below v5).mono q30.2.2.2.out.size))⟩
                  refine wp_region_held_drew (S := (fun w' => w'.cell? ⟨B9, 0, none⟩ = some (.pointer pt) ∧ w'.cell? ⟨w3.heap.size, 0, none⟩ = some (.pointer p2) ∧ w'.cell? ⟨B19, 0, none⟩ = some (.pointer none) ∧ Hid (Below v5.heap.size v5 w'))) (by kernel_rfl) qd (fun hHeld => ?_)
                  try dsimp only at hHeld
                  refine take_op (i := 0) (d := 221) (OP := Op.move (Operand.tmp 20)) (T := 46) (v := ?vzz60) rfl rfl rfl rfl (by kernel_rfl) (by kernel_rfl) (by kernel_rfl) (fun _ _ _ h => h) (by rfl) ?hzz60 hHeld ?rzz60
                  case hzz60 => (intro w' hSw; (try dsimp only at hSw); go_simp <;> with_reducible rfl)
                  try simp only [Act.put, List.setIfInBounds_toArray, List.set_cons_zero, List.set_cons_succ]
                  refine take_op (i := 1) (d := 222) (OP := Op.binOp BinOp.neq 46 (Operand.tmp 221) (Operand.const (Value.int IntKind.i64 0)) 46) (T := 4) (v := ?vzz61) rfl rfl rfl rfl (by kernel_rfl) (by kernel_rfl) (by kernel_rfl) (fun _ _ _ h => h) (by rfl) ?hzz61 hHeld ?rzz61
                  case hzz61 => (intro w' hSw; (try dsimp only at hSw); go_simp <;> with_reducible rfl)
                  try simp only [Act.put, List.setIfInBounds_toArray, List.set_cons_zero, List.set_cons_succ]
                  refine take_op (i := 2) (d := 223) (OP := Op.move (Operand.tmp 222)) (T := 4) (v := ?vzz62) rfl rfl rfl rfl (by kernel_rfl) (by kernel_rfl) (by kernel_rfl) (fun _ _ _ h => h) (by rfl) ?hzz62 hHeld ?rzz62
                  case hzz62 => (intro w' hSw; (try dsimp only at hSw); go_simp <;> with_reducible rfl)
                  try simp only [Act.put, List.setIfInBounds_toArray, List.set_cons_zero, List.set_cons_succ]
                  refine pass_op (i := 3) (d := 224) rfl rfl (by kernel_rfl) (by kernel_rfl) (by kernel_rfl) (fun _ _ _ h => h) (by rfl) hHeld ?_
                  try simp only [Act.put, List.setIfInBounds_toArray, List.set_cons_zero, List.set_cons_succ]
                  refine pass_op (i := 4) (d := 225) rfl rfl (by kernel_rfl) (by kernel_rfl) (by kernel_rfl) (fun _ _ _ h => h) (by rfl) hHeld ?_
                  try simp only [Act.put, List.setIfInBounds_toArray, List.set_cons_zero, List.set_cons_succ]
                  refine pass_op (i := 5) (d := 226) rfl rfl (by kernel_rfl) (by kernel_rfl) (by kernel_rfl) (fun _ _ _ h => h) (by rfl) hHeld ?_
                  try simp only [Act.put, List.setIfInBounds_toArray, List.set_cons_zero, List.set_cons_succ]
                  refine pass_op (i := 6) (d := 227) rfl rfl (by kernel_rfl) (by kernel_rfl) (by kernel_rfl) (fun _ _ _ h => h) (by rfl) hHeld ?_
                  try simp only [Act.put, List.setIfInBounds_toArray, List.set_cons_zero, List.set_cons_succ]
                  refine pass_op (i := 7) (d := 228) rfl rfl (by kernel_rfl) (by kernel_rfl) (by kernel_rfl) (fun _ _ _ h => h) (by rfl) hHeld ?_
                  try simp only [Act.put, List.setIfInBounds_toArray, List.set_cons_zero, List.set_cons_succ]
                  refine pass_op (i := 8) (d := 229) rfl rfl (by kernel_rfl) (by kernel_rfl) (by kernel_rfl) (fun _ _ _ h => h) (by rfl) hHeld ?_
                  try simp only [Act.put, List.setIfInBounds_toArray, List.set_cons_zero, List.set_cons_succ]
                  refine pass_op (i := 9) (d := 230) rfl rfl (by kernel_rfl) (by kernel_rfl) (by kernel_rfl) (fun _ _ _ h => h) (by rfl) hHeld ?_
                  try simp only [Act.put, List.setIfInBounds_toArray, List.set_cons_zero, List.set_cons_succ]
                  refine pass_op (i := 10) (d := 231) rfl rfl (by kernel_rfl) (by kernel_rfl) (by kernel_rfl) (fun _ _ _ h => h) (by rfl) hHeld ?_
                  try simp only [Act.put, List.setIfInBounds_toArray, List.set_cons_zero, List.set_cons_succ]
                  refine pass_op (i := 11) (d := 232) rfl rfl (by kernel_rfl) (by kernel_rfl) (by kernel_rfl) (fun _ _ _ h => h) (by rfl) hHeld ?_
                  try simp only [Act.put, List.setIfInBounds_toArray, List.set_cons_zero, List.set_cons_succ]
                  refine pass_op (i := 12) (d := 233) rfl rfl (by kernel_rfl) (by kernel_rfl) (by kernel_rfl) (fun _ _ _ h => h) (by rfl) hHeld ?_
                  try simp only [Act.put, List.setIfInBounds_toArray, List.set_cons_zero, List.set_cons_succ]
                  refine pass_op (i := 13) (d := 234) rfl rfl (by kernel_rfl) (by kernel_rfl) (by kernel_rfl) (fun _ _ _ h => h) (by rfl) hHeld ?_
                  try simp only [Act.put, List.setIfInBounds_toArray, List.set_cons_zero, List.set_cons_succ]
                  refine pass_op (i := 14) (d := 235) rfl rfl (by kernel_rfl) (by kernel_rfl) (by kernel_rfl) (fun _ _ _ h => h) (by rfl) hHeld ?_
                  try simp only [Act.put, List.setIfInBounds_toArray, List.set_cons_zero, List.set_cons_succ]
                  refine pass_op (i := 15) (d := 236) rfl rfl (by kernel_rfl) (by kernel_rfl) (by kernel_rfl) (fun _ _ _ h => h) (by rfl) hHeld ?_
                  try simp only [Act.put, List.setIfInBounds_toArray, List.set_cons_zero, List.set_cons_succ]
                  refine pass_op (i := 16) (d := 237) rfl rfl (by kernel_rfl) (by kernel_rfl) (by kernel_rfl) (fun _ _ _ h => h) (by rfl) hHeld ?_
                  try simp only [Act.put, List.setIfInBounds_toArray, List.set_cons_zero, List.set_cons_succ]
                  refine pass_op (i := 17) (d := 238) rfl rfl (by kernel_rfl) (by kernel_rfl) (by kernel_rfl) (fun _ _ _ h => h) (by rfl) hHeld ?_
                  try simp only [Act.put, List.setIfInBounds_toArray, List.set_cons_zero, List.set_cons_succ]
                  refine pass_op (i := 18) (d := 239) rfl rfl (by kernel_rfl) (by kernel_rfl) (by kernel_rfl) (fun _ _ _ h => h) (by rfl) hHeld ?_
                  try simp only [Act.put, List.setIfInBounds_toArray, List.set_cons_zero, List.set_cons_succ]
                  refine pass_op (i := 19) (d := 240) rfl rfl (by kernel_rfl) (by kernel_rfl) (by kernel_rfl) (fun _ _ _ h => h) (by rfl) hHeld ?_
                  try simp only [Act.put, List.setIfInBounds_toArray, List.set_cons_zero, List.set_cons_succ]
                  refine pass_op (i := 20) (d := 241) rfl rfl (by kernel_rfl) (by kernel_rfl) (by kernel_rfl) (fun _ _ _ h => h) (by rfl) hHeld ?_
                  try simp only [Act.put, List.setIfInBounds_toArray, List.set_cons_zero, List.set_cons_succ]
                  refine pass_op (i := 21) (d := 242) rfl rfl (by kernel_rfl) (by kernel_rfl) (by kernel_rfl) (fun _ _ _ h => h) (by rfl) hHeld ?_
                  try simp only [Act.put, List.setIfInBounds_toArray, List.set_cons_zero, List.set_cons_succ]
                  refine pass_op (i := 22) (d := 243) rfl rfl (by kernel_rfl) (by kernel_rfl) (by kernel_rfl) (fun _ _ _ h => h) (by rfl) hHeld ?_
                  try simp only [Act.put, List.setIfInBounds_toArray, List.set_cons_zero, List.set_cons_succ]
                  refine pass_op (i := 23) (d := 244) rfl rfl (by kernel_rfl) (by kernel_rfl) (by kernel_rfl) (fun _ _ _ h => h) (by rfl) hHeld ?_
                  try simp only [Act.put, List.setIfInBounds_toArray, List.set_cons_zero, List.set_cons_succ]
                  refine pass_op (i := 24) (d := 245) rfl rfl (by kernel_rfl) (by kernel_rfl) (by kernel_rfl) (fun _ _ _ h => h) (by rfl) hHeld ?_
                  try simp only [Act.put, List.setIfInBounds_toArray, List.set_cons_zero, List.set_cons_succ]
                  refine pass_op (i := 25) (d := 246) rfl rfl (by kernel_rfl) (by kernel_rfl) (by kernel_rfl) (fun _ _ _ h => h) (by rfl) hHeld ?_
                  try simp only [Act.put, List.setIfInBounds_toArray, List.set_cons_zero, List.set_cons_succ]
                  refine pass_op (i := 26) (d := 247) rfl rfl (by kernel_rfl) (by kernel_rfl) (by kernel_rfl) (fun _ _ _ h => h) (by rfl) hHeld ?_
                  try simp only [Act.put, List.setIfInBounds_toArray, List.set_cons_zero, List.set_cons_succ]
                  refine pass_op (i := 27) (d := 248) rfl rfl (by kernel_rfl) (by kernel_rfl) (by kernel_rfl) (fun _ _ _ h => h) (by rfl) hHeld ?_
                  try simp only [Act.put, List.setIfInBounds_toArray, List.set_cons_zero, List.set_cons_succ]
                  refine pass_op (i := 28) (d := 249) rfl rfl (by kernel_rfl) (by kernel_rfl) (by kernel_rfl) (fun _ _ _ h => h) (by rfl) hHeld ?_
                  try simp only [Act.put, List.setIfInBounds_toArray, List.set_cons_zero, List.set_cons_succ]
                  refine pass_op (i := 29) (d := 250) rfl rfl (by kernel_rfl) (by kernel_rfl) (by kernel_rfl) (fun _ _ _ h => h) (by rfl) hHeld ?_
                  try simp only [Act.put, List.setIfInBounds_toArray, List.set_cons_zero, List.set_cons_succ]
                  refine pass_op (i := 30) (d := 251) rfl rfl (by kernel_rfl) (by kernel_rfl) (by kernel_rfl) (fun _ _ _ h => h) (by rfl) hHeld ?_
                  try simp only [Act.put, List.setIfInBounds_toArray, List.set_cons_zero, List.set_cons_succ]
                  refine pass_op (i := 31) (d := 252) rfl rfl (by kernel_rfl) (by kernel_rfl) (by kernel_rfl) (fun _ _ _ h => h) (by rfl) hHeld ?_
                  try simp only [Act.put, List.setIfInBounds_toArray, List.set_cons_zero, List.set_cons_succ]
                  refine pass_op (i := 32) (d := 253) rfl rfl (by kernel_rfl) (by kernel_rfl) (by kernel_rfl) (fun _ _ _ h => h) (by rfl) hHeld ?_
                  try simp only [Act.put, List.setIfInBounds_toArray, List.set_cons_zero, List.set_cons_succ]
                  refine pass_op (i := 33) (d := 254) rfl rfl (by kernel_rfl) (by kernel_rfl) (by kernel_rfl) (fun _ _ _ h => h) (by rfl) hHeld ?_
                  try simp only [Act.put, List.setIfInBounds_toArray, List.set_cons_zero, List.set_cons_succ]
                  refine pass_op (i := 34) (d := 255) rfl rfl (by kernel_rfl) (by kernel_rfl) (by kernel_rfl) (fun _ _ _ h => h) (by rfl) hHeld ?_
                  try simp only [Act.put, List.setIfInBounds_toArray, List.set_cons_zero, List.set_cons_succ]
                  refine pass_op (i := 35) (d := 256) rfl rfl (by kernel_rfl) (by kernel_rfl) (by kernel_rfl) (fun _ _ _ h => h) (by rfl) hHeld ?_
                  try simp only [Act.put, List.setIfInBounds_toArray, List.set_cons_zero, List.set_cons_succ]
                  refine take_op (i := 36) (d := 257) (OP := Op.pick (Operand.tmp 223) (Operand.const (Value.bool true)) (Operand.tmp 256)) (T := 4) (v := ?vzz63) rfl rfl rfl rfl (by kernel_rfl) (by kernel_rfl) (by kernel_rfl) (fun _ _ _ h => h) (by rfl) ?hzz63 hHeld ?rzz63
                  case hzz63 => (intro w' hSw; (try dsimp only at hSw); go_simp <;> with_reducible rfl)
                  try simp only [Act.put, List.setIfInBounds_toArray, List.set_cons_zero, List.set_cons_succ]
                  refine take_op (i := 37) (d := 258) (OP := Op.move (Operand.tmp 257)) (T := 4) (v := ?vzz64) rfl rfl rfl rfl (by kernel_rfl) (by kernel_rfl) (by kernel_rfl) (fun _ _ _ h => h) (by rfl) ?hzz64 hHeld ?rzz64
                  case hzz64 => (intro w' hSw; (try dsimp only at hSw); go_simp <;> with_reducible rfl)
                  try simp only [Act.put, List.setIfInBounds_toArray, List.set_cons_zero, List.set_cons_succ]
                  refine call_op (i := 38) (d := 259) (OP := Op.call { callee := Callee.value (Operand.func 7), args := #[], argTypes := #[] }) (T := 4) (f := 7) (args := #[]) rfl rfl rfl rfl (by kernel_rfl) (by rfl) (by go_simp) ?_
                  refine (known_any _).mono ?_
                  rintro e u1w ⟨rfl, bu1w⟩
                  have qu1w : u1w.cell? ⟨B9, 0, none⟩ = some (.pointer pt) ∧ u1w.cell? ⟨w3.heap.size, 0, none⟩ = some (.pointer p2) ∧ u1w.cell? ⟨B19, 0, none⟩ = some (.pointer none) ∧ Hid (Below v5.heap.size v5 u1w) := ⟨cell_stays qd.1 bu1w, cell_stays qd.2.1 bu1w, cell_stays qd.2.2.1 bu1w, hide (qd.2.2.2.out.trans (bu1w.mono qd.2.2.2.out.size))⟩
                  refine ⟨_, rfl, qu1w, ?_⟩
                  replace hHeld := qu1w
                  try simp only [Act.put, List.setIfInBounds_toArray, List.set_cons_zero, List.set_cons_succ]
                  refine take_op (i := 39) (d := 260) (OP := Op.pick (Operand.tmp 258) (Operand.tmp 259) (Operand.const (Value.bool false))) (T := 4) (v := ?vzz65) rfl rfl rfl rfl (by kernel_rfl) (by kernel_rfl) (by kernel_rfl) (fun _ _ _ h => h) (by rfl) ?hzz65 hHeld ?rzz65
                  case hzz65 => (intro w' hSw; (try dsimp only at hSw); go_simp <;> with_reducible rfl)
                  try simp only [Act.put, List.setIfInBounds_toArray, List.set_cons_zero, List.set_cons_succ]
                  refine take_op (i := 40) (d := 8) (OP := Op.assign (Operand.tmp 260)) (T := 4) (v := ?vzz66) rfl rfl rfl rfl (by kernel_rfl) (by kernel_rfl) (by kernel_rfl) (fun _ _ _ h => h) (by rfl) ?hzz66 hHeld ?rzz66
                  case hzz66 => (intro w' hSw; (try dsimp only at hSw); go_simp <;> with_reducible rfl)
                  try simp only [Act.put, List.setIfInBounds_toArray, List.set_cons_zero, List.set_cons_succ]
                  refine wpAnyH_done (by kernel_rfl) ?_ _
                  have hfin : Below w.heap.size w u1w := by
                    have h0 := HG3.out.2.2.1
                    have h1 := h0.trans (HL.out.below.mono h0.size)
                    have h2 := h1.trans (HB4.out.1.mono h1.size)
                    have h3 := h2.trans (b5.out.mono h2.size)
                    exact h3.trans (qu1w.2.2.2.out.mono h3.size)
                  go_wp2
                  go_ret
                  exact ⟨by simp, hfin⟩
                as_aux_lemma =>
                have hMB : MB = true := by rw [← HK12.out.1]; unfold makesB; rw [hF]; rw [decide_eq_true (show t.h ≤ t2.h + 1 by omega), decide_eq_true (show t2.h ≤ t.h + 1 by omega)]; rfl
                subst hMB
                have e1 : K1 = 0 := by rw [HK12.out.2.1]; rfl
                have e2 : K2 = 0 := by rw [HK12.out.2.2]; rfl
                subst e1 e2
                obtain ⟨c9, c14, c18, c19, H8⟩ := qw8
                have HC := hide (And.intro c9 (And.intro c14 (And.intro c18 c19)))
                have zd0 : (t.h : Int) - (t2.h : Int) < 2 := by omega
                have zd1 : -2 < (t.h : Int) - (t2.h : Int) := by omega
                have D8 : Hid (Below wr.heap.size wr w8 ∧ In w8 x ∧ In w8 y) := hide ⟨bwc.trans (H8.out.mono bwc.size), In.below H8.out (In.below HY.out.2.2.2 H6.out.2), In.below H8.out HY.out.2.2.1⟩
                have cl := fun W => mLen_any .nil W trivial
                unfold mv at cl
                simp only [T.ptr, T.n] at cl
                clear cHa cHb q24 qd qw7 hHeld
                go_upto_region 27 with (fail)
                have bz : Below wr.heap.size wr w8 := D8.out.1.trans ((Below.refl w8.heap.size w8).mono D8.out.1.size)
                obtain ⟨a1, cc1, x2, a2, cc2, x3, a3, cc3, x4, r1, r2, r3, es4, b4⟩ := app_three (key := key) (HF.out.2.1.below bz) (HF.out.2.2.below bz) (by omega) (by omega)
                have HE4 := hide (And.intro es4 b4)
                have b84 : Below w8.heap.size w8 x4 := (Below.refl w8.heap.size w8).trans (b4.mono (Below.refl w8.heap.size w8).size)
                have c9 := cell_stays HC.out.1 b84
                have c14 := cell_stays HC.out.2.1 b84
                have c18 := cell_stays HC.out.2.2.1 b84
                have c19 := cell_stays HC.out.2.2.2 b84
                have ix4 := In.below b84 D8.out.2.1
                have iy4 := In.below b84 D8.out.2.2
                have HB4 := hide (And.intro (D8.out.1.trans (b84.mono D8.out.1.size)) b84)
                clear b4 b84 bz es4 cl
                have hL4b : (t.list ++ (key, (7 : Int)) :: t2.list).length ≤ 100 := by simp only [List.length_append, List.length_cons]; omega
                generalize hL4 : (t.list ++ (key, 7) :: t2.list).length = L4 at *
                generalize t.list.length = L12 at *
                generalize t2.list.length = L15 at *
                clear hl12 hl15
                have hjg := join_good (H5.out.2.1.1 rfl) HG3.out.1.bal HL.out.bal HG3.out.1.srt HL.out.srt hF
                have ctx : Calls Try.prog 17 #[.agg #[.pointer px], .slice a3 L4 cc3, .int .i64 2, .string key] x4 fun e w' => e = .returned (.bool true) ∧ Below x4.heap.size x4 w' := by
                  have := tells_any x (.slice a3 L4 cc3) 2 key x4 ⟨ix4, hjg.1, hjg.2.1, by rw [← T.n_eq, hjg.2.2, hL4]; omega⟩ (by rw [hjg.2.2]; exact HE4.out.1)
                  rw [show mv x = .agg #[.pointer px] from by unfold mv; rw [H5.out.1]] at this
                  exact this
                go_upto_region 30 with (first
                  | (at_builtin; refine wpList_turn (OP := .call { callee := .builtin .append, args := #[.const (.slice none 0 0), .tmp 204], argTypes := #[27, 27] }) (T := 27) rfl rfl rfl (exec_append rfl rfl r1) ?_)
                  | (at_builtin; refine wpList_turn (OP := .call { callee := .builtin .append, args := #[.tmp 205, .tmp 208], argTypes := #[27, 27] }) (T := 27) rfl rfl rfl (exec_append rfl rfl r2) ?_)
                  | (at_builtin; refine wpList_turn (OP := .call { callee := .builtin .append, args := #[.tmp 209, .tmp 210], argTypes := #[27, 27] }) (T := 27) rfl rfl rfl (exec_append rfl rfl r3) ?_)
                  | (go_at_call 17; refine ctx.mono ?_; rintro e v5 ⟨rfl, b5⟩; have c9 := cell_stays c9 b5; have c14 := cell_stays c14 b5; have c19 := cell_stays c19 b5; have iy5 := In.below b5 iy4; replace b5 := hide b5; dsimp only))
                have q30 : v5.cell? ⟨B9, 0, none⟩ = some (.pointer pt) ∧ v5.cell? ⟨w3.heap.size, 0, none⟩ = some (.pointer p2) ∧ v5.cell? ⟨B19, 0, none⟩ = some (.pointer py) ∧ Hid (Below v5.heap.size v5 v5) := ⟨c9, c14, c19, hide (Below.refl _ _)⟩
                obtain ⟨yp, hyn⟩ := HY.out.2.1.1 rfl
                have hpy := HY.out.1
                have hyg := make_good (p := yp) (v := 7) HG3.out.1.bal HL.out.bal HG3.out.1.srt HL.out.srt (show makesB t key t2 = true from by unfold makesB; rw [hF, decide_eq_true (show t.h ≤ t2.h + 1 by omega), decide_eq_true (show t2.h ≤ t.h + 1 by omega)]; rfl)
                rw [← hyn] at hyg
                have cty : ∀ W, Below v5.heap.size v5 W → Calls Try.prog 17 #[.agg #[.pointer py], .slice a3 L4 cc3, .int .i64 2, .string key] W fun e w' => e = .returned (.bool true) ∧ Below W.heap.size W w' := fun W hW => by
                  have := tells_any y (.slice a3 L4 cc3) 2 key W ⟨In.below hW iy5, hyg.1, hyg.2.1, by rw [← T.n_eq, hyg.2.2, hL4]; omega⟩ (by rw [hyg.2.2]; exact (HE4.out.1.below b5.out).below hW)
                  rw [show mv y = .agg #[.pointer py] from by unfold mv; rw [hpy]] at this
                  exact this
                have ry : ∀ W, Calls Try.prog 23 #[.agg #[.pointer py]] W fun e w' => e = .returned (.pointer py) ∧ Below W.heap.size W w' := fun W => by
                  have := mRoot_any y W
                  rw [show mv y = .agg #[.pointer py] from by unfold mv; rw [hpy], hpy] at this
                  exact this
                have ly : ∀ W, Below v5.heap.size v5 W → Calls Try.prog 24 #[.pointer py] W fun e w' => e = .returned (.pointer pt) ∧ Below W.heap.size W w' := fun W hW => by
                  have := left_any y W (In.below hW iy5)
                  rw [hpy, show y.left.ptr = .pointer pt from by rw [hyn, ← hpt]; rfl] at this
                  exact this.mono fun e w' ⟨h1, h2⟩ => ⟨h1, by rw [h2]; exact Below.refl _ _⟩
                have ryr : ∀ W, Below v5.heap.size v5 W → Calls Try.prog 25 #[.pointer py] W fun e w' => e = .returned (.pointer p2) ∧ Below W.heap.size W w' := fun W hW => by
                  have := right_any y W (In.below hW iy5)
                  rw [hpy, show y.right.ptr = .pointer p2 from by rw [hyn, ← hp2]; rfl] at this
                  exact this.mono fun e w' ⟨h1, h2⟩ => ⟨h1, by rw [h2]; exact Below.refl _ _⟩
                have ky : ∀ W, Below v5.heap.size v5 W → Calls Try.prog 26 #[.pointer py] W fun e w' => e = .returned (.string key) ∧ Below W.heap.size W w' := fun W hW => by
                  have := key_any y W (In.below hW iy5)
                  rw [hpy, show y.key = key from by rw [hyn]; rfl] at this
                  exact this.mono fun e w' ⟨h1, h2⟩ => ⟨h1, by rw [h2]; exact Below.refl _ _⟩
                have vy : ∀ W, Below v5.heap.size v5 W → Calls Try.prog 27 #[.pointer py] W fun e w' => e = .returned (.int .i64 7) ∧ Below W.heap.size W w' := fun W hW => by
                  have := value_any y W (In.below hW iy5)
                  rw [hpy, show y.val = 7 from by rw [hyn]; rfl] at this
                  exact this.mono fun e w' ⟨h1, h2⟩ => ⟨h1, by rw [h2]; exact Below.refl _ _⟩
                have pe1 : ∀ W, (binOp .eql 24 (.pointer pt) (.pointer pt)).run Try.prog W = .ok (.bool true) W := fun W => by rw [← hpt]; exact eql_same t W
                have pe2 : ∀ W, (binOp .eql 24 (.pointer p2) (.pointer p2)).run Try.prog W = .ok (.bool true) W := fun W => by rw [← hp2]; exact eql_same t2 W
                clear c9 c14 c18 c19 r1 r2 r3 ix4
                have qd : v5.drew.cell? ⟨B9, 0, none⟩ = some (.pointer pt) ∧ v5.drew.cell? ⟨w3.heap.size, 0, none⟩ = some (.pointer p2) ∧ v5.drew.cell? ⟨B19, 0, none⟩ = some (.pointer py) ∧ Hid (Below v5.heap.size v5 v5.drew) := ⟨q30.1, q30.2.1, q30.2.2.1, hide (q30.2.2.2.out.trans ((drew_below v5).mono q30.2.2.2.out.size))⟩
                refine wp_region_held_drew (S := (fun w' => w'.cell? ⟨B9, 0, none⟩ = some (.pointer pt) ∧ w'.cell? ⟨w3.heap.size, 0, none⟩ = some (.pointer p2) ∧ w'.cell? ⟨B19, 0, none⟩ = some (.pointer py) ∧ Hid (Below v5.heap.size v5 w'))) (by kernel_rfl) qd (fun hHeld => ?_)
                try dsimp only at hHeld
                refine take_op (i := 0) (d := 221) (OP := Op.move (Operand.tmp 20)) (T := 46) (v := ?vzz67) rfl rfl rfl rfl (by kernel_rfl) (by kernel_rfl) (by kernel_rfl) (fun _ _ _ h => h) (by rfl) ?hzz67 hHeld ?rzz67
                case hzz67 => (intro w' hSw; (try dsimp only at hSw); go_simp <;> with_reducible rfl)
                try simp only [Act.put, List.setIfInBounds_toArray, List.set_cons_zero, List.set_cons_succ]
                refine take_op (i := 1) (d := 222) (OP := Op.binOp BinOp.neq 46 (Operand.tmp 221) (Operand.const (Value.int IntKind.i64 0)) 46) (T := 4) (v := ?vzz68) rfl rfl rfl rfl (by kernel_rfl) (by kernel_rfl) (by kernel_rfl) (fun _ _ _ h => h) (by rfl) ?hzz68 hHeld ?rzz68
                case hzz68 => (intro w' hSw; (try dsimp only at hSw); go_simp <;> with_reducible rfl)
                try simp only [Act.put, List.setIfInBounds_toArray, List.set_cons_zero, List.set_cons_succ]
                refine take_op (i := 2) (d := 223) (OP := Op.move (Operand.tmp 222)) (T := 4) (v := ?vzz69) rfl rfl rfl rfl (by kernel_rfl) (by kernel_rfl) (by kernel_rfl) (fun _ _ _ h => h) (by rfl) ?hzz69 hHeld ?rzz69
                case hzz69 => (intro w' hSw; (try dsimp only at hSw); go_simp <;> with_reducible rfl)
                try simp only [Act.put, List.setIfInBounds_toArray, List.set_cons_zero, List.set_cons_succ]
                refine take_op (i := 3) (d := 224) (OP := Op.load 26 (Operand.tmp 19)) (T := 26) (v := ?vzz70) rfl rfl rfl rfl (by kernel_rfl) (by kernel_rfl) (by kernel_rfl) (fun _ _ _ h => h) (by rfl) ?hzz70 hHeld ?rzz70
                case hzz70 => (intro w' hSw; (try dsimp only at hSw); go_simp <;> with_reducible rfl)
                try simp only [Act.put, List.setIfInBounds_toArray, List.set_cons_zero, List.set_cons_succ]
                refine take_op (i := 4) (d := 225) (OP := Op.move (Operand.tmp 22)) (T := 27) (v := ?vzz71) rfl rfl rfl rfl (by kernel_rfl) (by kernel_rfl) (by kernel_rfl) (fun _ _ _ h => h) (by rfl) ?hzz71 hHeld ?rzz71
                case hzz71 => (intro w' hSw; (try dsimp only at hSw); go_simp <;> with_reducible rfl)
                try simp only [Act.put, List.setIfInBounds_toArray, List.set_cons_zero, List.set_cons_succ]
                refine take_op (i := 5) (d := 226) (OP := Op.move (Operand.tmp 3)) (T := 9) (v := ?vzz72) rfl rfl rfl rfl (by kernel_rfl) (by kernel_rfl) (by kernel_rfl) (fun _ _ _ h => h) (by rfl) ?hzz72 hHeld ?rzz72
                case hzz72 => (intro w' hSw; (try dsimp only at hSw); go_simp <;> with_reducible rfl)
                try simp only [Act.put, List.setIfInBounds_toArray, List.set_cons_zero, List.set_cons_succ]
                refine call_op (i := 6) (d := 227) (OP := Op.call { callee := Callee.value (Operand.func 17), args := #[Operand.tmp 224, Operand.tmp 225, Operand.const (Value.int IntKind.i64 2), Operand.tmp 226], argTypes := #[26, 27, 3, 9] }) (T := 4) (f := 17) (args := #[.agg #[.pointer py], .slice a3 L4 cc3, .int .i64 2, .string key]) rfl rfl rfl rfl (by kernel_rfl) (by rfl) (by go_simp) ?_
                refine (cty _ qd.2.2.2.out).mono ?_
                rintro e u1w ⟨rfl, bu1w⟩
                have qu1w : u1w.cell? ⟨B9, 0, none⟩ = some (.pointer pt) ∧ u1w.cell? ⟨w3.heap.size, 0, none⟩ = some (.pointer p2) ∧ u1w.cell? ⟨B19, 0, none⟩ = some (.pointer py) ∧ Hid (Below v5.heap.size v5 u1w) := ⟨cell_stays qd.1 bu1w, cell_stays qd.2.1 bu1w, cell_stays qd.2.2.1 bu1w, hide (qd.2.2.2.out.trans (bu1w.mono qd.2.2.2.out.size))⟩
                refine ⟨_, rfl, qu1w, ?_⟩
                replace hHeld := qu1w
                try simp only [Act.put, List.setIfInBounds_toArray, List.set_cons_zero, List.set_cons_succ]
                refine take_op (i := 7) (d := 228) (OP := Op.move (Operand.tmp 227)) (T := 4) (v := ?vzz73) rfl rfl rfl rfl (by kernel_rfl) (by kernel_rfl) (by kernel_rfl) (fun _ _ _ h => h) (by rfl) ?hzz73 hHeld ?rzz73
                case hzz73 => (intro w' hSw; (try dsimp only at hSw); go_simp <;> with_reducible rfl)
                try simp only [Act.put, List.setIfInBounds_toArray, List.set_cons_zero, List.set_cons_succ]
                refine take_op (i := 8) (d := 229) (OP := Op.load 26 (Operand.tmp 19)) (T := 26) (v := ?vzz74) rfl rfl rfl rfl (by kernel_rfl) (by kernel_rfl) (by kernel_rfl) (fun _ _ _ h => h) (by rfl) ?hzz74 hHeld ?rzz74
                case hzz74 => (intro w' hSw; (try dsimp only at hSw); go_simp <;> with_reducible rfl)
                try simp only [Act.put, List.setIfInBounds_toArray, List.set_cons_zero, List.set_cons_succ]
                refine take_op (i := 11) (d := 232) (OP := Op.load 26 (Operand.tmp 9)) (T := 26) (v := ?vzz75) rfl rfl rfl rfl (by kernel_rfl) (by kernel_rfl) (by kernel_rfl) (fun _ _ _ h => h) (by rfl) ?hzz75 hHeld ?rzz75
                case hzz75 => (intro w' hSw; (try dsimp only at hSw); go_simp <;> with_reducible rfl)
                try simp only [Act.put, List.setIfInBounds_toArray, List.set_cons_zero, List.set_cons_succ]
                refine call_op (i := 9) (d := 230) (OP := Op.call { callee := Callee.value (Operand.func 23), args := #[Operand.tmp 229], argTypes := #[26] }) (T := 24) (f := 23) (args := #[.agg #[.pointer py]]) rfl rfl rfl rfl (by kernel_rfl) (by rfl) (by go_simp) ?_
                refine (ry _).mono ?_
                rintro e u2w ⟨rfl, bu2w⟩
                have qu2w : u2w.cell? ⟨B9, 0, none⟩ = some (.pointer pt) ∧ u2w.cell? ⟨w3.heap.size, 0, none⟩ = some (.pointer p2) ∧ u2w.cell? ⟨B19, 0, none⟩ = some (.pointer py) ∧ Hid (Below v5.heap.size v5 u2w) := ⟨cell_stays qu1w.1 bu2w, cell_stays qu1w.2.1 bu2w, cell_stays qu1w.2.2.1 bu2w, hide (qu1w.2.2.2.out.trans (bu2w.mono qu1w.2.2.2.out.size))⟩
                refine ⟨_, rfl, qu2w, ?_⟩
                replace hHeld := qu2w
                try simp only [Act.put, List.setIfInBounds_toArray, List.set_cons_zero, List.set_cons_succ]
                refine call_op (i := 10) (d := 231) (OP := Op.call { callee := Callee.value (Operand.func 24), args := #[Operand.tmp 230], argTypes := #[24] }) (T := 24) (f := 24) (args := #[.pointer py]) rfl rfl rfl rfl (by kernel_rfl) (by rfl) (by go_simp) ?_
                refine (ly _ qu2w.2.2.2.out).mono ?_
                rintro e u3w ⟨rfl, bu3w⟩
                have qu3w : u3w.cell? ⟨B9, 0, none⟩ = some (.pointer pt) ∧ u3w.cell? ⟨w3.heap.size, 0, none⟩ = some (.pointer p2) ∧ u3w.cell? ⟨B19, 0, none⟩ = some (.pointer py) ∧ Hid (Below v5.heap.size v5 u3w) := ⟨cell_stays qu2w.1 bu3w, cell_stays qu2w.2.1 bu3w, cell_stays qu2w.2.2.1 bu3w, hide (qu2w.2.2.2.out.trans (bu3w.mono qu2w.2.2.2.out.size))⟩
                refine ⟨_, rfl, qu3w, ?_⟩
                replace hHeld := qu3w
                try simp only [Act.put, List.setIfInBounds_toArray, List.set_cons_zero, List.set_cons_succ]
                refine call_op (i := 12) (d := 233) (OP := Op.call { callee := Callee.value (Operand.func 23), args := #[Operand.tmp 232], argTypes := #[26] }) (T := 24) (f := 23) (args := #[.agg #[.pointer pt]]) rfl rfl rfl rfl (by kernel_rfl) (by rfl) (by go_simp) ?_
                refine (ro1 _).mono ?_
                rintro e u4w ⟨rfl, bu4w⟩
                have qu4w : u4w.cell? ⟨B9, 0, none⟩ = some (.pointer pt) ∧ u4w.cell? ⟨w3.heap.size, 0, none⟩ = some (.pointer p2) ∧ u4w.cell? ⟨B19, 0, none⟩ = some (.pointer py) ∧ Hid (Below v5.heap.size v5 u4w) := ⟨cell_stays qu3w.1 bu4w, cell_stays qu3w.2.1 bu4w, cell_stays qu3w.2.2.1 bu4w, hide (qu3w.2.2.2.out.trans (bu4w.mono qu3w.2.2.2.out.size))⟩
                refine ⟨_, rfl, qu4w, ?_⟩
                replace hHeld := qu4w
                try simp only [Act.put, List.setIfInBounds_toArray, List.set_cons_zero, List.set_cons_succ]
                refine take_op (i := 13) (d := 234) (OP := Op.binOp BinOp.eql 24 (Operand.tmp 231) (Operand.tmp 233) 24) (T := 4) (v := ?vzz76) rfl rfl rfl rfl (by kernel_rfl) (by kernel_rfl) (by kernel_rfl) (fun _ _ _ h => h) (by rfl) ?hzz76 hHeld ?rzz76
                case hzz76 => (intro w' hSw; (try dsimp only at hSw); go_simp <;> with_reducible rfl)
                try simp only [Act.put, List.setIfInBounds_toArray, List.set_cons_zero, List.set_cons_succ]
                refine take_op (i := 14) (d := 235) (OP := Op.pick (Operand.tmp 228) (Operand.tmp 234) (Operand.const (Value.bool false))) (T := 4) (v := ?vzz77) rfl rfl rfl rfl (by kernel_rfl) (by kernel_rfl) (by kernel_rfl) (fun _ _ _ h => h) (by rfl) ?hzz77 hHeld ?rzz77
                case hzz77 => (intro w' hSw; (try dsimp only at hSw); go_simp <;> with_reducible rfl)
                try simp only [Act.put, List.setIfInBounds_toArray, List.set_cons_zero, List.set_cons_succ]
                refine take_op (i := 15) (d := 236) (OP := Op.move (Operand.tmp 235)) (T := 4) (v := ?vzz78) rfl rfl rfl rfl (by kernel_rfl) (by kernel_rfl) (by kernel_rfl) (fun _ _ _ h => h) (by rfl) ?hzz78 hHeld ?rzz78
                case hzz78 => (intro w' hSw; (try dsimp only at hSw); go_simp <;> with_reducible rfl)
                try simp only [Act.put, List.setIfInBounds_toArray, List.set_cons_zero, List.set_cons_succ]
                refine take_op (i := 16) (d := 237) (OP := Op.load 26 (Operand.tmp 19)) (T := 26) (v := ?vzz79) rfl rfl rfl rfl (by kernel_rfl) (by kernel_rfl) (by kernel_rfl) (fun _ _ _ h => h) (by rfl) ?hzz79 hHeld ?rzz79
                case hzz79 => (intro w' hSw; (try dsimp only at hSw); go_simp <;> with_reducible rfl)
                try simp only [Act.put, List.setIfInBounds_toArray, List.set_cons_zero, List.set_cons_succ]
                refine take_op (i := 19) (d := 240) (OP := Op.load 26 (Operand.tmp 14)) (T := 26) (v := ?vzz80) rfl rfl rfl rfl (by kernel_rfl) (by kernel_rfl) (by kernel_rfl) (fun _ _ _ h => h) (by rfl) ?hzz80 hHeld ?rzz80
                case hzz80 => (intro w' hSw; (try dsimp only at hSw); go_simp <;> with_reducible rfl)
                try simp only [Act.put, List.setIfInBounds_toArray, List.set_cons_zero, List.set_cons_succ]
                refine call_op (i := 17) (d := 238) (OP := Op.call { callee := Callee.value (Operand.func 23), args := #[Operand.tmp 237], argTypes := #[26] }) (T := 24) (f := 23) (args := #[.agg #[.pointer py]]) rfl rfl rfl rfl (by kernel_rfl) (by rfl) (by go_simp) ?_
                refine (ry _).mono ?_
                rintro e u5w ⟨rfl, bu5w⟩
                have qu5w : u5w.cell? ⟨B9, 0, none⟩ = some (.pointer pt) ∧ u5w.cell? ⟨w3.heap.size, 0, none⟩ = some (.pointer p2) ∧ u5w.cell? ⟨B19, 0, none⟩ = some (.pointer py) ∧ Hid (Below v5.heap.size v5 u5w) := ⟨cell_stays qu4w.1 bu5w, cell_stays qu4w.2.1 bu5w, cell_stays qu4w.2.2.1 bu5w, hide (qu4w.2.2.2.out.trans (bu5w.mono qu4w.2.2.2.out.size))⟩
                refine ⟨_, rfl, qu5w, ?_⟩
                replace hHeld := qu5w
                try simp only [Act.put, List.setIfInBounds_toArray, List.set_cons_zero, List.set_cons_succ]
                refine call_op (i := 18) (d := 239) (OP := Op.call { callee := Callee.value (Operand.func 25), args := #[Operand.tmp 238], argTypes := #[24] }) (T := 24) (f := 25) (args := #[.pointer py]) rfl rfl rfl rfl (by kernel_rfl) (by rfl) (by go_simp) ?_
                refine (ryr _ qu5w.2.2.2.out).mono ?_
                rintro e u6w ⟨rfl, bu6w⟩
                have qu6w : u6w.cell? ⟨B9, 0, none⟩ = some (.pointer pt) ∧ u6w.cell? ⟨w3.heap.size, 0, none⟩ = some (.pointer p2) ∧ u6w.cell? ⟨B19, 0, none⟩ = some (.pointer py) ∧ Hid (Below v5.heap.size v5 u6w) := ⟨cell_stays qu5w.1 bu6w, cell_stays qu5w.2.1 bu6w, cell_stays qu5w.2.2.1 bu6w, hide (qu5w.2.2.2.out.trans (bu6w.mono qu5w.2.2.2.out.size))⟩
                refine ⟨_, rfl, qu6w, ?_⟩
                replace hHeld := qu6w
                try simp only [Act.put, List.setIfInBounds_toArray, List.set_cons_zero, List.set_cons_succ]
                refine call_op (i := 20) (d := 241) (OP := Op.call { callee := Callee.value (Operand.func 23), args := #[Operand.tmp 240], argTypes := #[26] }) (T := 24) (f := 23) (args := #[.agg #[.pointer p2]]) rfl rfl rfl rfl (by kernel_rfl) (by rfl) (by go_simp) ?_
                refine (ro2 _).mono ?_
                rintro e u7w ⟨rfl, bu7w⟩
                have qu7w : u7w.cell? ⟨B9, 0, none⟩ = some (.pointer pt) ∧ u7w.cell? ⟨w3.heap.size, 0, none⟩ = some (.pointer p2) ∧ u7w.cell? ⟨B19, 0, none⟩ = some (.pointer py) ∧ Hid (Below v5.heap.size v5 u7w) := ⟨cell_stays qu6w.1 bu7w, cell_stays qu6w.2.1 bu7w, cell_stays qu6w.2.2.1 bu7w, hide (qu6w.2.2.2.out.trans (bu7w.mono qu6w.2.2.2.out.size))⟩
                refine ⟨_, rfl, qu7w, ?_⟩
                replace hHeld := qu7w
                try simp only [Act.put, List.setIfInBounds_toArray, List.set_cons_zero, List.set_cons_succ]
                refine take_op (i := 21) (d := 242) (OP := Op.binOp BinOp.eql 24 (Operand.tmp 239) (Operand.tmp 241) 24) (T := 4) (v := ?vzz81) rfl rfl rfl rfl (by kernel_rfl) (by kernel_rfl) (by kernel_rfl) (fun _ _ _ h => h) (by rfl) ?hzz81 hHeld ?rzz81
                case hzz81 => (intro w' hSw; (try dsimp only at hSw); go_simp <;> with_reducible rfl)
                try simp only [Act.put, List.setIfInBounds_toArray, List.set_cons_zero, List.set_cons_succ]
                refine take_op (i := 22) (d := 243) (OP := Op.pick (Operand.tmp 236) (Operand.tmp 242) (Operand.const (Value.bool false))) (T := 4) (v := ?vzz82) rfl rfl rfl rfl (by kernel_rfl) (by kernel_rfl) (by kernel_rfl) (fun _ _ _ h => h) (by rfl) ?hzz82 hHeld ?rzz82
                case hzz82 => (intro w' hSw; (try dsimp only at hSw); go_simp <;> with_reducible rfl)
                try simp only [Act.put, List.setIfInBounds_toArray, List.set_cons_zero, List.set_cons_succ]
                refine take_op (i := 23) (d := 244) (OP := Op.move (Operand.tmp 243)) (T := 4) (v := ?vzz83) rfl rfl rfl rfl (by kernel_rfl) (by kernel_rfl) (by kernel_rfl) (fun _ _ _ h => h) (by rfl) ?hzz83 hHeld ?rzz83
                case hzz83 => (intro w' hSw; (try dsimp only at hSw); go_simp <;> with_reducible rfl)
                try simp only [Act.put, List.setIfInBounds_toArray, List.set_cons_zero, List.set_cons_succ]
                refine take_op (i := 24) (d := 245) (OP := Op.load 26 (Operand.tmp 19)) (T := 26) (v := ?vzz84) rfl rfl rfl rfl (by kernel_rfl) (by kernel_rfl) (by kernel_rfl) (fun _ _ _ h => h) (by rfl) ?hzz84 hHeld ?rzz84
                case hzz84 => (intro w' hSw; (try dsimp only at hSw); go_simp <;> with_reducible rfl)
                try simp only [Act.put, List.setIfInBounds_toArray, List.set_cons_zero, List.set_cons_succ]
                refine take_op (i := 27) (d := 248) (OP := Op.move (Operand.tmp 3)) (T := 9) (v := ?vzz85) rfl rfl rfl rfl (by kernel_rfl) (by kernel_rfl) (by kernel_rfl) (fun _ _ _ h => h) (by rfl) ?hzz85 hHeld ?rzz85
                case hzz85 => (intro w' hSw; (try dsimp only at hSw); go_simp <;> with_reducible rfl)
                try simp only [Act.put, List.setIfInBounds_toArray, List.set_cons_zero, List.set_cons_succ]
                refine call_op (i := 25) (d := 246) (OP := Op.call { callee := Callee.value (Operand.func 23), args := #[Operand.tmp 245], argTypes := #[26] }) (T := 24) (f := 23) (args := #[.agg #[.pointer py]]) rfl rfl rfl rfl (by kernel_rfl) (by rfl) (by go_simp) ?_
                refine (ry _).mono ?_
                rintro e u8w ⟨rfl, bu8w⟩
                have qu8w : u8w.cell? ⟨B9, 0, none⟩ = some (.pointer pt) ∧ u8w.cell? ⟨w3.heap.size, 0, none⟩ = some (.pointer p2) ∧ u8w.cell? ⟨B19, 0, none⟩ = some (.pointer py) ∧ Hid (Below v5.heap.size v5 u8w) := ⟨cell_stays qu7w.1 bu8w, cell_stays qu7w.2.1 bu8w, cell_stays qu7w.2.2.1 bu8w, hide (qu7w.2.2.2.out.trans (bu8w.mono qu7w.2.2.2.out.size))⟩
                refine ⟨_, rfl, qu8w, ?_⟩
                replace hHeld := qu8w
                try simp only [Act.put, List.setIfInBounds_toArray, List.set_cons_zero, List.set_cons_succ]
                refine call_op (i := 26) (d := 247) (OP := Op.call { callee := Callee.value (Operand.func 26), args := #[Operand.tmp 246], argTypes := #[24] }) (T := 9) (f := 26) (args := #[.pointer py]) rfl rfl rfl rfl (by kernel_rfl) (by rfl) (by go_simp) ?_
                refine (ky _ qu8w.2.2.2.out).mono ?_
                rintro e u9w ⟨rfl, bu9w⟩
                have qu9w : u9w.cell? ⟨B9, 0, none⟩ = some (.pointer pt) ∧ u9w.cell? ⟨w3.heap.size, 0, none⟩ = some (.pointer p2) ∧ u9w.cell? ⟨B19, 0, none⟩ = some (.pointer py) ∧ Hid (Below v5.heap.size v5 u9w) := ⟨cell_stays qu8w.1 bu9w, cell_stays qu8w.2.1 bu9w, cell_stays qu8w.2.2.1 bu9w, hide (qu8w.2.2.2.out.trans (bu9w.mono qu8w.2.2.2.out.size))⟩
                refine ⟨_, rfl, qu9w, ?_⟩
                replace hHeld := qu9w
                try simp only [Act.put, List.setIfInBounds_toArray, List.set_cons_zero, List.set_cons_succ]
                refine take_op (i := 28) (d := 249) (OP := Op.binOp BinOp.eql 9 (Operand.tmp 247) (Operand.tmp 248) 9) (T := 4) (v := ?vzz86) rfl rfl rfl rfl (by kernel_rfl) (by kernel_rfl) (by kernel_rfl) (fun _ _ _ h => h) (by rfl) ?hzz86 hHeld ?rzz86
                case hzz86 => (intro w' hSw; (try dsimp only at hSw); go_simp <;> with_reducible rfl)
                try simp only [Act.put, List.setIfInBounds_toArray, List.set_cons_zero, List.set_cons_succ]
                refine take_op (i := 29) (d := 250) (OP := Op.pick (Operand.tmp 244) (Operand.tmp 249) (Operand.const (Value.bool false))) (T := 4) (v := ?vzz87) rfl rfl rfl rfl (by kernel_rfl) (by kernel_rfl) (by kernel_rfl) (fun _ _ _ h => h) (by rfl) ?hzz87 hHeld ?rzz87
                case hzz87 => (intro w' hSw; (try dsimp only at hSw); go_simp <;> with_reducible rfl)
                try simp only [Act.put, List.setIfInBounds_toArray, List.set_cons_zero, List.set_cons_succ]
                refine take_op (i := 30) (d := 251) (OP := Op.move (Operand.tmp 250)) (T := 4) (v := ?vzz88) rfl rfl rfl rfl (by kernel_rfl) (by kernel_rfl) (by kernel_rfl) (fun _ _ _ h => h) (by rfl) ?hzz88 hHeld ?rzz88
                case hzz88 => (intro w' hSw; (try dsimp only at hSw); go_simp <;> with_reducible rfl)
                try simp only [Act.put, List.setIfInBounds_toArray, List.set_cons_zero, List.set_cons_succ]
                refine take_op (i := 31) (d := 252) (OP := Op.load 26 (Operand.tmp 19)) (T := 26) (v := ?vzz89) rfl rfl rfl rfl (by kernel_rfl) (by kernel_rfl) (by kernel_rfl) (fun _ _ _ h => h) (by rfl) ?hzz89 hHeld ?rzz89
                case hzz89 => (intro w' hSw; (try dsimp only at hSw); go_simp <;> with_reducible rfl)
                try simp only [Act.put, List.setIfInBounds_toArray, List.set_cons_zero, List.set_cons_succ]
                refine call_op (i := 32) (d := 253) (OP := Op.call { callee := Callee.value (Operand.func 23), args := #[Operand.tmp 252], argTypes := #[26] }) (T := 24) (f := 23) (args := #[.agg #[.pointer py]]) rfl rfl rfl rfl (by kernel_rfl) (by rfl) (by go_simp) ?_
                refine (ry _).mono ?_
                rintro e u10w ⟨rfl, bu10w⟩
                have qu10w : u10w.cell? ⟨B9, 0, none⟩ = some (.pointer pt) ∧ u10w.cell? ⟨w3.heap.size, 0, none⟩ = some (.pointer p2) ∧ u10w.cell? ⟨B19, 0, none⟩ = some (.pointer py) ∧ Hid (Below v5.heap.size v5 u10w) := ⟨cell_stays qu9w.1 bu10w, cell_stays qu9w.2.1 bu10w, cell_stays qu9w.2.2.1 bu10w, hide (qu9w.2.2.2.out.trans (bu10w.mono qu9w.2.2.2.out.size))⟩
                refine ⟨_, rfl, qu10w, ?_⟩
                replace hHeld := qu10w
                try simp only [Act.put, List.setIfInBounds_toArray, List.set_cons_zero, List.set_cons_succ]
                refine call_op (i := 33) (d := 254) (OP := Op.call { callee := Callee.value (Operand.func 27), args := #[Operand.tmp 253], argTypes := #[24] }) (T := 3) (f := 27) (args := #[.pointer py]) rfl rfl rfl rfl (by kernel_rfl) (by rfl) (by go_simp) ?_
                refine (vy _ qu10w.2.2.2.out).mono ?_
                rintro e u11w ⟨rfl, bu11w⟩
                have qu11w : u11w.cell? ⟨B9, 0, none⟩ = some (.pointer pt) ∧ u11w.cell? ⟨w3.heap.size, 0, none⟩ = some (.pointer p2) ∧ u11w.cell? ⟨B19, 0, none⟩ = some (.pointer py) ∧ Hid (Below v5.heap.size v5 u11w) := ⟨cell_stays qu10w.1 bu11w, cell_stays qu10w.2.1 bu11w, cell_stays qu10w.2.2.1 bu11w, hide (qu10w.2.2.2.out.trans (bu11w.mono qu10w.2.2.2.out.size))⟩
                refine ⟨_, rfl, qu11w, ?_⟩
                replace hHeld := qu11w
                try simp only [Act.put, List.setIfInBounds_toArray, List.set_cons_zero, List.set_cons_succ]
                refine take_op (i := 34) (d := 255) (OP := Op.binOp BinOp.eql 3 (Operand.tmp 254) (Operand.const (Value.int IntKind.i64 7)) 3) (T := 4) (v := ?vzz90) rfl rfl rfl rfl (by kernel_rfl) (by kernel_rfl) (by kernel_rfl) (fun _ _ _ h => h) (by rfl) ?hzz90 hHeld ?rzz90
                case hzz90 => (intro w' hSw; (try dsimp only at hSw); go_simp <;> with_reducible rfl)
                try simp only [Act.put, List.setIfInBounds_toArray, List.set_cons_zero, List.set_cons_succ]
                refine take_op (i := 35) (d := 256) (OP := Op.pick (Operand.tmp 251) (Operand.tmp 255) (Operand.const (Value.bool false))) (T := 4) (v := ?vzz91) rfl rfl rfl rfl (by kernel_rfl) (by kernel_rfl) (by kernel_rfl) (fun _ _ _ h => h) (by rfl) ?hzz91 hHeld ?rzz91
                case hzz91 => (intro w' hSw; (try dsimp only at hSw); go_simp <;> with_reducible rfl)
                try simp only [Act.put, List.setIfInBounds_toArray, List.set_cons_zero, List.set_cons_succ]
                refine take_op (i := 36) (d := 257) (OP := Op.pick (Operand.tmp 223) (Operand.const (Value.bool true)) (Operand.tmp 256)) (T := 4) (v := ?vzz92) rfl rfl rfl rfl (by kernel_rfl) (by kernel_rfl) (by kernel_rfl) (fun _ _ _ h => h) (by rfl) ?hzz92 hHeld ?rzz92
                case hzz92 => (intro w' hSw; (try dsimp only at hSw); go_simp <;> with_reducible rfl)
                try simp only [Act.put, List.setIfInBounds_toArray, List.set_cons_zero, List.set_cons_succ]
                refine take_op (i := 37) (d := 258) (OP := Op.move (Operand.tmp 257)) (T := 4) (v := ?vzz93) rfl rfl rfl rfl (by kernel_rfl) (by kernel_rfl) (by kernel_rfl) (fun _ _ _ h => h) (by rfl) ?hzz93 hHeld ?rzz93
                case hzz93 => (intro w' hSw; (try dsimp only at hSw); go_simp <;> with_reducible rfl)
                try simp only [Act.put, List.setIfInBounds_toArray, List.set_cons_zero, List.set_cons_succ]
                refine call_op (i := 38) (d := 259) (OP := Op.call { callee := Callee.value (Operand.func 7), args := #[], argTypes := #[] }) (T := 4) (f := 7) (args := #[]) rfl rfl rfl rfl (by kernel_rfl) (by rfl) (by go_simp) ?_
                refine (known_any _).mono ?_
                rintro e u12w ⟨rfl, bu12w⟩
                have qu12w : u12w.cell? ⟨B9, 0, none⟩ = some (.pointer pt) ∧ u12w.cell? ⟨w3.heap.size, 0, none⟩ = some (.pointer p2) ∧ u12w.cell? ⟨B19, 0, none⟩ = some (.pointer py) ∧ Hid (Below v5.heap.size v5 u12w) := ⟨cell_stays qu11w.1 bu12w, cell_stays qu11w.2.1 bu12w, cell_stays qu11w.2.2.1 bu12w, hide (qu11w.2.2.2.out.trans (bu12w.mono qu11w.2.2.2.out.size))⟩
                refine ⟨_, rfl, qu12w, ?_⟩
                replace hHeld := qu12w
                try simp only [Act.put, List.setIfInBounds_toArray, List.set_cons_zero, List.set_cons_succ]
                refine take_op (i := 39) (d := 260) (OP := Op.pick (Operand.tmp 258) (Operand.tmp 259) (Operand.const (Value.bool false))) (T := 4) (v := ?vzz94) rfl rfl rfl rfl (by kernel_rfl) (by kernel_rfl) (by kernel_rfl) (fun _ _ _ h => h) (by rfl) ?hzz94 hHeld ?rzz94
                case hzz94 => (intro w' hSw; (try dsimp only at hSw); go_simp <;> with_reducible rfl)
                try simp only [Act.put, List.setIfInBounds_toArray, List.set_cons_zero, List.set_cons_succ]
                refine take_op (i := 40) (d := 8) (OP := Op.assign (Operand.tmp 260)) (T := 4) (v := ?vzz95) rfl rfl rfl rfl (by kernel_rfl) (by kernel_rfl) (by kernel_rfl) (fun _ _ _ h => h) (by rfl) ?hzz95 hHeld ?rzz95
                case hzz95 => (intro w' hSw; (try dsimp only at hSw); go_simp <;> with_reducible rfl)
                try simp only [Act.put, List.setIfInBounds_toArray, List.set_cons_zero, List.set_cons_succ]
                refine wpAnyH_done (by kernel_rfl) ?_ _
                have hfin : Below w.heap.size w u12w := by
                  have h0 := HG3.out.2.2.1
                  have h1 := h0.trans (HL.out.below.mono h0.size)
                  have h2 := h1.trans (HB4.out.1.mono h1.size)
                  have h3 := h2.trans (b5.out.mono h2.size)
                  exact h3.trans (qu12w.2.2.2.out.mono h3.size)
                go_wp2
                go_ret
                exact ⟨by simp, hfin⟩
end Go.Proofs.Ytleaaoknjflgoaa
