/-
  WALKS over the program's Cut and Copy.
-/
import Derived.Test.YtfaceimamipbpaaRange
import Derived.Deep.CutRange
namespace Go.Proofs.Ytfaceimamipbpaa
open Go.RowKit Go.Shelf
set_option linter.unusedSimpArgs false
attribute [local go_sem] Oper.semAt_some

/-- A call and an operation that turns the world come up together in a region that draws its order. -/
theorem call_turn_op {P : Program} {md : Region.Mode} {ops : Array Oper} {Q : Exit → Act → World → Prop} {S : World → Prop} {i j : Nat} {oi oj : Oper} {di dj : Tmp} {OPi OPj : Op} {Ti Tj : TypeId} {f : FuncId} {args : Array Value} {u : Value} {fuel : Nat} {listed : Array Bool} {a : Act} {w w' : World}
    (hi : ops[i]? = some oi) (hdi : oi.dst = some di) (hoi : oi.op = OPi) (hti : oi.type = Ti) (hj : ops[j]? = some oj) (hdj : oj.dst = some dj) (hoj : oj.op = OPj) (htj : oj.type = Tj)
    (hr : Region.ready md ops listed = [i, j]) (hwi : Region.wanted oi (yielded ops a.tmps) = true) (hwj : Region.wanted oj (yielded ops a.tmps) = true)
    (hyi : (execOp a.eval { dst := none, op := OPi, type := Ti, pos := "", after := #[], guard := none }).run P w = .ok (.enter f args) w)
    (hyj : (execOp a.eval { dst := none, op := OPj, type := Tj, pos := "", after := #[], guard := none }).run P w = .ok (.value u) w')
    (hS' : S w')
    (h1 : Calls P f args w fun e w1 => ∃ v, e = .returned v ∧ S w1 ∧ wpAnyH P md ops Q S fuel (listed.setIfInBounds i true) (a.put (some di) v) w1) (h2 : wpAnyH P md ops Q S fuel (listed.setIfInBounds j true) (a.put (some dj) u) w') : wpAnyH P md ops Q S (fuel + 1) listed a w := by
  refine wpAnyH_ready hr (by simp) (AllReadyH.cons hi (fun K hK => ?_) (AllReadyH.cons hj (fun K hK => ?_) AllReadyH.nil))
  · rw [if_pos hwi]
    unfold Oper.wp
    rw [exec_same a.eval oi hoi hti, hyi]
    refine Calls.mono h1 ?_
    rintro e w1 ⟨v, rfl, hS, hx⟩
    show K (a.put oi.dst v) w1
    rw [hdi]
    exact hK.out _ _ hS (fun _ => hx)
  · rw [if_pos hwj]
    unfold Oper.wp
    rw [exec_same a.eval oj hoj htj, hyj]
    show K (a.put oj.dst u) w'
    rw [hdj]
    exact hK.out _ _ hS' (fun _ => h2)

/-- A post that no panic meets. -/
def noPanic (Q : Exit → Act → World → Prop) : Exit → Act → World → Prop
  | .panic _, _, _ => False
  | e, a, w => Q e a w
theorem wp_noPanic {P : Program} {c : Code} {Q : Exit → Act → World → Prop} {a : Act} {w : World} (h : c.wp P (noPanic Q) a w) : c.wp P Q a w :=
  Code.wp_mono (fun e a w q => by cases e <;> first | exact q.elim | exact q) h
/-- A function that holds a range over a function. -/
theorem calls_marks {f : FuncId} {fn : Func} {c : Code} {args : Array Value} {w : World} {R : Ending → World → Prop} (hf : Try.prog.funcs[f]? = some fn) (hb : fn.body = some c)
    (h : c.wp Try.prog (noPanic (bodyPostM Fence.wide 6 Try.prog fn R)) { tmps := args ++ Array.replicate (fn.ntmps - args.size) undef, defers := [] } w) : Calls Try.prog f args w R :=
  (callsIn_wide (n := 6)).1 (callsIn_of_wp_marks hf hb trivial (wpIn_wide.2 (wp_noPanic h)) rfl)

/-- The mark of a range over a function is taken up at the return. -/
theorem leave_mark {fn : Func} {tmps : Array Value} {R : Ending → World → Prop} {ds : List Deferred} {W : World} {D0 : Nat} (hK : W.heap[D0]? = some (.deferred (some []))) (h : LeavesInM Fence.wide 6 Try.prog fn tmps R ds .returning (W.putObj D0 (.deferred none))) :
    LeavesInM Fence.wide 6 Try.prog fn tmps R ({ target := .collected D0, args := #[] } :: ds) .returning W := ⟨by simp, .inl ⟨_, _, rfl, run_takeDeferred hK, h⟩⟩
theorem leave_none {fn : Func} {tmps : Array Value} {R : Ending → World → Prop} {W : World} {v : Value} (hr : (results fn tmps).run Try.prog W = .ok v W) (h : R (.returned v) W) : LeavesInM Fence.wide 6 Try.prog fn tmps R [] .returning W := ⟨v, hr, h⟩

section
variable {F G : Nat → Prop} {w : World} {R : Nat} {cap : Int} {beg : St} {log : List Wr}
/-- How a disk began. -/
theorem PD.begin (h : PD F G w R cap beg log) : ∃ x0 c0 x1 c1, w.cell? ⟨R, 1, none⟩ = some (.slice x0 beg.a0.length c0) ∧ w.cell? ⟨R, 2, none⟩ = some (.slice x1 beg.a1.length c1) ∧ w.cell? ⟨R, 3, none⟩ = some (.int .i64 beg.u) ∧ RdG w G x0 c0 beg.a0 ∧ RdG w G x1 c1 beg.a1 := by
  obtain ⟨x0, c0, x1, c1, va, vb, vl, xs, hr⟩ := h.disk
  refine ⟨x0, c0, x1, c1, ?_, ?_, ?_, hr.r0, hr.r1⟩
  all_goals (rw [cell_of_row w R _ _ 60 (0, 0) hr.cells]; rfl)
theorem RdG.below {w' : World} {ao : Option Addr} {c : Nat} {l : List Int} (h : RdG w G ao c l) (k : Below w.heap.size w w') : RdG w' G ao c l := h.only (Only.ofBelow k) (fun _ d => d.elim)

set_option maxHeartbeats 1000000 in
set_option maxRecDepth 100000 in
theorem cut_no (h : PD F G w R cap beg log) (n : Int) (hn : n < 0 ∨ (log.length : Int) < n) :
    Calls Try.prog 17 #[.pointer (some ⟨R, 0, none⟩), .int .i64 n] w fun e w' => e = .returned (.tuple #[.pointer none, .int .i64 2]) ∧ Below w.heap.size w w' := by
  have hb0 : Below w.heap.size w (w.alloc (.cells #[.int .i64 n] 3)) := (Below.refl _ w).alloc (Nat.le_refl _) _
  obtain ⟨va, vb, vl, xs, h0, h4, h5, h6, h7, _, _, hl, _⟩ := (h.below hb0).look
  have hp := h.pos
  obtain ⟨ao, c, rfl, _, _⟩ := row_form hl
  clear h hl
  by_cases hneg : n < 0
  · have hd : decide (n < 0) = true := by simpa using hneg
    go_enter Try.func17, Try.ntmps17
    go_wp2_with (go_at_call 36; refine (there_yes R cap _ h0 hp).mono ?_; rintro e w1 ⟨rfl, rfl⟩)
    go_quiet (fail)
    go_wp2
    go_ret2
    exact ⟨rfl, hb0.trans ((below_drew _ _).mono (by simp))⟩
  · have hd : decide (n < 0) = false := by simpa using hneg
    have hd2 : decide ((log.length : Int) < n) = true := by simp; omega
    go_enter Try.func17, Try.ntmps17
    go_wp2_with (go_at_call 36; refine (there_yes R cap _ h0 hp).mono ?_; rintro e w1 ⟨rfl, rfl⟩)
    go_quiet (fail)
    go_wp2
    go_ret2
    exact ⟨rfl, hb0.trans ((below_drew _ _).mono (by simp))⟩

/-- What a round of Cut may turn. -/
def CutD (B L l0 Cb : Nat) : Nat → Prop := fun j => B + 1 ≤ j ∧ j ≠ L ∧ j ≠ l0 ∧ j ≠ l0 + 1 ∧ j ≠ Cb
/-- Where Cut's own disk stands behind k rounds. -/
def CutI (G : Nat → Prop) (w : World) (cap : Int) (beg : St) (log : List Wr) (n : Nat) (Cb C L l0 : Nat) (k : Nat) (W : World) : Prop :=
  ∃ Fc Gc, PD Fc Gc W C cap beg (log.take k) ∧ k ≤ n ∧ (∀ j, Fc j → CutD w.heap.size L l0 Cb j) ∧ (∀ j, Gc j → G j ∨ (w.heap.size + 1 ≤ j ∧ j ≠ l0 ∧ j ≠ l0 + 1)) ∧
    W.cell? ⟨Cb, 0, none⟩ = some (.pointer (some ⟨C, 0, none⟩)) ∧ W.cell? ⟨w.heap.size, 0, none⟩ = some (.int .i64 n) ∧ Below w.heap.size w W
theorem CutI.only {W W' : World} {n Cb C L l0 k : Nat} (h : CutI G w cap beg log n Cb C L l0 k W) (hG : Under G w.heap.size) {m : Nat} (hm : m = l0 ∨ m = l0 + 1) (hlt : w.heap.size < l0 ∧ Cb < l0) (ho : Only (fun j => j = m) W W') : CutI G w cap beg log n Cb C L l0 k W' := by
  obtain ⟨Fc, Gc, h1, h2, h3, h4, h5, h6, h7⟩ := h
  refine ⟨Fc, Gc, h1.only ho (fun j e hF => ?_) (fun j e hg => ?_), h2, h3, h4, ho.cell h5 (by intro e; simp only at e; omega), ho.cell h6 (by intro e; simp only at e; omega), Below.only h7 ho h7.size (by intro j e; omega)⟩
  · have := h3 j hF
    unfold CutD at this
    omega
  · rcases h4 j hg with q | q
    · have := hG j q; omega
    · omega

set_option maxHeartbeats 2000000 in
set_option maxRecDepth 100000 in
theorem cut_yes (h : PD F G w R cap beg log) (n : Nat) (hn : n ≤ log.length) (hll : log.length < 1000000) :
    Calls Try.prog 17 #[.pointer (some ⟨R, 0, none⟩), .int .i64 n] w fun e w' => ∃ C Fc Gc, e = .returned (.tuple #[.pointer (some ⟨C, 0, none⟩), .int .i64 0]) ∧ PD Fc Gc w' C cap beg (log.take n) ∧ (∀ k, Fc k → w.heap.size ≤ k) ∧ Grown G Gc w ∧ Below w.heap.size w w' := by
  have hb0 : Below w.heap.size w (w.alloc (.cells #[.int .i64 n] 3)) := (Below.refl _ w).alloc (Nat.le_refl _) _
  have hnN : (w.alloc (.cells #[.int .i64 n] 3)).cell? ⟨w.heap.size, 0, none⟩ = some (.int .i64 n) := by rw [cell_of_row _ _ 0 _ 3 (0, 0) (heap_alloc_new w _)]; rfl
  obtain ⟨va, vb, vl, xs, h0, h4, h5, h6, h7, _, _, hl, _⟩ := (h.below hb0).look
  obtain ⟨x0, c0, x1, c1, k1, k2, k3, kr0, kr1⟩ := h.begin
  have hp := h.pos
  have hm := h.most
  have hfb := h.fits.begin
  have hlt := h.lt
  have hGu := h.uG
  obtain ⟨ao, c, rfl, _, _⟩ := row_form hl
  have H := hide h
  have hd : decide ((n : Int) < 0) = false := by simp
  have hd2 : decide ((log.length : Int) < (n : Int)) = false := by simp; omega
  clear h hl
  refine calls_marks Try.func17 rfl ?_
  simp only [Try.ntmps17, List.size_toArray, List.length_cons, List.length_nil, Nat.reduceAdd, Nat.reduceSub, Array.replicate_succ, Array.replicate_zero, List.push_toArray, List.append_toArray, List.nil_append, List.cons_append]
  go_wp2_with (go_at_call 36; refine (there_yes R cap _ h0 hp).mono ?_; rintro e w1 ⟨rfl, rfl⟩)
  go_quiet (fail)
  go_wp2
  have hbq : Below w.heap.size w ((w.alloc (.cells #[.int .i64 n] 3)).drewN nq) := hb0.trans ((below_drew _ nq).mono (by simp))
  have hbq2 : Below w.heap.size w ((w.alloc (.cells #[.int .i64 n] 3)).drewN nq).drew := hbq.drew
  have hbA : Below w.heap.size w (((w.alloc (.cells #[.int .i64 n] 3)).drewN nq).drew.alloc (.cells #[.pointer none] 28)) := hbq2.alloc (by simp) _
  have hS0 : ((w.alloc (.cells #[.int .i64 n] 3)).drewN nq).drew.cell? ⟨R, 0, none⟩ = some (.int .i64 cap) ∧ ((w.alloc (.cells #[.int .i64 n] 3)).drewN nq).drew.cell? ⟨R, 1, none⟩ = some (.slice x0 beg.a0.length c0) ∧ ((w.alloc (.cells #[.int .i64 n] 3)).drewN nq).drew.cell? ⟨R, 2, none⟩ = some (.slice x1 beg.a1.length c1) ∧ ((w.alloc (.cells #[.int .i64 n] 3)).drewN nq).drew.cell? ⟨R, 3, none⟩ = some (.int .i64 beg.u) := ⟨(hbq2.cell (by exact hlt)).trans H.out.cap0, (hbq2.cell (by exact hlt)).trans k1, (hbq2.cell (by exact hlt)).trans k2, (hbq2.cell (by exact hlt)).trans k3⟩
  have hSA : (((w.alloc (.cells #[.int .i64 n] 3)).drewN nq).drew.alloc (.cells #[.pointer none] 28)).cell? ⟨R, 0, none⟩ = some (.int .i64 cap) ∧ (((w.alloc (.cells #[.int .i64 n] 3)).drewN nq).drew.alloc (.cells #[.pointer none] 28)).cell? ⟨R, 1, none⟩ = some (.slice x0 beg.a0.length c0) ∧ (((w.alloc (.cells #[.int .i64 n] 3)).drewN nq).drew.alloc (.cells #[.pointer none] 28)).cell? ⟨R, 2, none⟩ = some (.slice x1 beg.a1.length c1) ∧ (((w.alloc (.cells #[.int .i64 n] 3)).drewN nq).drew.alloc (.cells #[.pointer none] 28)).cell? ⟨R, 3, none⟩ = some (.int .i64 beg.u) := ⟨(hbA.cell (by exact hlt)).trans H.out.cap0, (hbA.cell (by exact hlt)).trans k1, (hbA.cell (by exact hlt)).trans k2, (hbA.cell (by exact hlt)).trans k3⟩
  have hnewA : (((w.alloc (.cells #[.int .i64 n] 3)).drewN nq).drew.alloc (.cells #[.pointer none] 28)).heap[w.heap.size.succ]? = some (.cells #[.pointer none] 28 (0, 0)) := by
    have := heap_alloc_new ((w.alloc (.cells #[.int .i64 n] 3)).drewN nq).drew (.cells #[.pointer none] 28)
    simpa using this
  have hfr1 := fresh_any (G := G) cap x0 x1 c0 c1 beg.a0 beg.a1 beg.u ((w.alloc (.cells #[.int .i64 n] 3)).drewN nq).drew (kr0.below hbq2) (kr1.below hbq2) (fun k hk => Nat.lt_of_lt_of_le (hGu k hk) hbq2.size) hfb hp hm
  have hfr2 := fresh_any (G := G) cap x0 x1 c0 c1 beg.a0 beg.a1 beg.u (((w.alloc (.cells #[.int .i64 n] 3)).drewN nq).drew.alloc (.cells #[.pointer none] 28)) (kr0.below hbA) (kr1.below hbA) (fun k hk => Nat.lt_of_lt_of_le (hGu k hk) hbA.size) hfb hp hm
  unfold arv at hfr1 hfr2
  go_cut [6] from 9 to 44 (fun cv wc => ∃ Cb C Fc, cv = .pointer (some ⟨Cb, 0, none⟩) ∧ wc.heap[Cb]? = some (.cells #[.pointer (some ⟨C, 0, none⟩)] 28 (0, 0)) ∧ PD Fc G wc C cap beg [] ∧ (∀ k, Fc k → w.heap.size + 1 ≤ k ∧ k ≠ Cb) ∧ w.heap.size + 1 ≤ Cb ∧ Below (w.heap.size + 1) ((w.alloc (.cells #[.int .i64 n] 3)).drewN nq) wc)
  case first =>
    refine wp_region_held_drew (S := (fun w' => w'.cell? ⟨R, 0, none⟩ = some (.int .i64 cap) ∧ w'.cell? ⟨R, 1, none⟩ = some (.slice x0 beg.a0.length c0) ∧ w'.cell? ⟨R, 2, none⟩ = some (.slice x1 beg.a1.length c1) ∧ w'.cell? ⟨R, 3, none⟩ = some (.int .i64 beg.u))) (by kernel_rfl) (by exact hS0) (fun hHeld => ?_)
    try dsimp only at hHeld
    refine take_op (i := 0) (d := 25) (OP := Op.move (Operand.tmp 0)) (T := 28) (v := ?vq1x) rfl rfl rfl rfl (by kernel_rfl) (by kernel_rfl) (by kernel_rfl) (fun _ _ _ h => h) (by rfl) ?hq1x hHeld ?rq1x
    case hq1x => (intro w' hSw; (try dsimp only at hSw); go_simp <;> with_reducible rfl)
    try simp only [Act.put, List.setIfInBounds_toArray, List.set_cons_zero, List.set_cons_succ]
    refine take_op (i := 1) (d := 26) (OP := Op.nilCheck (Operand.tmp 25)) (T := 0) (v := ?vq2x) rfl rfl rfl rfl (by kernel_rfl) (by kernel_rfl) (by kernel_rfl) (fun _ _ _ h => h) (by rfl) ?hq2x hHeld ?rq2x
    case hq2x => (intro w' hSw; (try dsimp only at hSw); go_simp <;> with_reducible rfl)
    try simp only [Act.put, List.setIfInBounds_toArray, List.set_cons_zero, List.set_cons_succ]
    refine take_op (i := 2) (d := 27) (OP := Op.fieldAddr 60 (Operand.tmp 26) 0) (T := 0) (v := ?vq3x) rfl rfl rfl rfl (by kernel_rfl) (by kernel_rfl) (by kernel_rfl) (fun _ _ _ h => h) (by rfl) ?hq3x hHeld ?rq3x
    case hq3x => (intro w' hSw; (try dsimp only at hSw); go_simp <;> with_reducible rfl)
    try simp only [Act.put, List.setIfInBounds_toArray, List.set_cons_zero, List.set_cons_succ]
    refine take_op (i := 3) (d := 28) (OP := Op.load 3 (Operand.tmp 27)) (T := 3) (v := ?vq4x) rfl rfl rfl rfl (by kernel_rfl) (by kernel_rfl) (by kernel_rfl) (fun _ _ _ h => h) (by rfl) ?hq4x hHeld ?rq4x
    case hq4x => (intro w' hSw; (try dsimp only at hSw); go_simp <;> with_reducible rfl)
    try simp only [Act.put, List.setIfInBounds_toArray, List.set_cons_zero, List.set_cons_succ]
    refine take_op (i := 4) (d := 29) (OP := Op.move (Operand.tmp 0)) (T := 28) (v := ?vq5x) rfl rfl rfl rfl (by kernel_rfl) (by kernel_rfl) (by kernel_rfl) (fun _ _ _ h => h) (by rfl) ?hq5x hHeld ?rq5x
    case hq5x => (intro w' hSw; (try dsimp only at hSw); go_simp <;> with_reducible rfl)
    try simp only [Act.put, List.setIfInBounds_toArray, List.set_cons_zero, List.set_cons_succ]
    refine take_op (i := 5) (d := 30) (OP := Op.nilCheck (Operand.tmp 29)) (T := 0) (v := ?vq6x) rfl rfl rfl rfl (by kernel_rfl) (by kernel_rfl) (by kernel_rfl) (fun _ _ _ h => h) (by rfl) ?hq6x hHeld ?rq6x
    case hq6x => (intro w' hSw; (try dsimp only at hSw); go_simp <;> with_reducible rfl)
    try simp only [Act.put, List.setIfInBounds_toArray, List.set_cons_zero, List.set_cons_succ]
    refine take_op (i := 6) (d := 31) (OP := Op.fieldAddr 60 (Operand.tmp 30) 1) (T := 0) (v := ?vq7x) rfl rfl rfl rfl (by kernel_rfl) (by kernel_rfl) (by kernel_rfl) (fun _ _ _ h => h) (by rfl) ?hq7x hHeld ?rq7x
    case hq7x => (intro w' hSw; (try dsimp only at hSw); go_simp <;> with_reducible rfl)
    try simp only [Act.put, List.setIfInBounds_toArray, List.set_cons_zero, List.set_cons_succ]
    refine take_op (i := 7) (d := 32) (OP := Op.load 57 (Operand.tmp 31)) (T := 57) (v := ?vq8x) rfl rfl rfl rfl (by kernel_rfl) (by kernel_rfl) (by kernel_rfl) (fun _ _ _ h => h) (by rfl) ?hq8x hHeld ?rq8x
    case hq8x => (intro w' hSw; (try dsimp only at hSw); go_simp <;> with_reducible rfl)
    try simp only [Act.put, List.setIfInBounds_toArray, List.set_cons_zero, List.set_cons_succ]
    refine call_turn_op (i := 8) (j := 9) (di := 33) (dj := 6) (OPi := Op.call { callee := Callee.value (Operand.func 27), args := #[Operand.tmp 28, Operand.tmp 32], argTypes := #[3, 57] }) (OPj := Op.alloc 28) (Ti := 28) (Tj := 0) (f := 27) (args := #[.int .i64 cap, .agg #[.slice x0 beg.a0.length c0, .slice x1 beg.a1.length c1, .int .i64 beg.u]]) (u := .pointer (some ⟨w.heap.size + 1, 0, none⟩)) (w' := (((w.alloc (.cells #[.int .i64 n] 3)).drewN nq).drew.alloc (.cells #[.pointer none] 28))) rfl rfl rfl rfl rfl rfl rfl rfl (by kernel_rfl) (by rfl) (by rfl) (by go_simp) (by go_simp) hSA ?bi ?bj
    case bi =>
      refine hfr1.mono ?_
      rintro e w1 ⟨C, Fc, rfl, hP, hFc, hb1⟩
      have hs1 : w.heap.size + 1 ≤ w1.heap.size := by have := hb1.size; simpa using this
      have hS1 : w1.cell? ⟨R, 0, none⟩ = some (.int .i64 cap) ∧ w1.cell? ⟨R, 1, none⟩ = some (.slice x0 beg.a0.length c0) ∧ w1.cell? ⟨R, 2, none⟩ = some (.slice x1 beg.a1.length c1) ∧ w1.cell? ⟨R, 3, none⟩ = some (.int .i64 beg.u) := ⟨(hb1.cell (by simp; omega)).trans hS0.1, (hb1.cell (by simp; omega)).trans hS0.2.1, (hb1.cell (by simp; omega)).trans hS0.2.2.1, (hb1.cell (by simp; omega)).trans hS0.2.2.2⟩
      have hS1A : (w1.alloc (.cells #[.pointer none] 28)).cell? ⟨R, 0, none⟩ = some (.int .i64 cap) ∧ (w1.alloc (.cells #[.pointer none] 28)).cell? ⟨R, 1, none⟩ = some (.slice x0 beg.a0.length c0) ∧ (w1.alloc (.cells #[.pointer none] 28)).cell? ⟨R, 2, none⟩ = some (.slice x1 beg.a1.length c1) ∧ (w1.alloc (.cells #[.pointer none] 28)).cell? ⟨R, 3, none⟩ = some (.int .i64 beg.u) := by
        have hq : Below w1.heap.size w1 (w1.alloc (.cells #[.pointer none] 28)) := (Below.refl _ w1).alloc (Nat.le_refl _) _
        exact ⟨(hq.cell (by simp; omega)).trans hS1.1, (hq.cell (by simp; omega)).trans hS1.2.1, (hq.cell (by simp; omega)).trans hS1.2.2.1, (hq.cell (by simp; omega)).trans hS1.2.2.2⟩
      have hS1B : (w1.alloc (.cells #[.pointer (some ⟨C, 0, none⟩)] 28)).cell? ⟨R, 0, none⟩ = some (.int .i64 cap) ∧ (w1.alloc (.cells #[.pointer (some ⟨C, 0, none⟩)] 28)).cell? ⟨R, 1, none⟩ = some (.slice x0 beg.a0.length c0) ∧ (w1.alloc (.cells #[.pointer (some ⟨C, 0, none⟩)] 28)).cell? ⟨R, 2, none⟩ = some (.slice x1 beg.a1.length c1) ∧ (w1.alloc (.cells #[.pointer (some ⟨C, 0, none⟩)] 28)).cell? ⟨R, 3, none⟩ = some (.int .i64 beg.u) := by
        have hq : Below w1.heap.size w1 (w1.alloc (.cells #[.pointer (some ⟨C, 0, none⟩)] 28)) := (Below.refl _ w1).alloc (Nat.le_refl _) _
        exact ⟨(hq.cell (by simp; omega)).trans hS1.1, (hq.cell (by simp; omega)).trans hS1.2.1, (hq.cell (by simp; omega)).trans hS1.2.2.1, (hq.cell (by simp; omega)).trans hS1.2.2.2⟩
      refine ⟨_, rfl, hS1, ?_⟩
      have hHeld := hS1
      try simp only [Act.put, List.setIfInBounds_toArray, List.set_cons_zero, List.set_cons_succ]
      refine turn_op (i := 9) (d := 6) (OP := Op.alloc 28) (T := 0) (v := (.pointer (some ⟨w1.heap.size, 0, none⟩))) (w' := (w1.alloc (.cells #[.pointer none] 28))) rfl rfl rfl rfl (by kernel_rfl) (by rfl) (by go_simp) hS1A ?_
      replace hHeld := hS1A
      try simp only [Act.put, List.setIfInBounds_toArray, List.set_cons_zero, List.set_cons_succ]
      refine skip_op (i := 10) (OP := Op.store 28 (Operand.tmp 6) (Operand.tmp 33)) (T := 0) (w' := (w1.alloc (.cells #[.pointer (some ⟨C, 0, none⟩)] 28))) rfl rfl rfl rfl (by kernel_rfl) (by rfl) (by go_simp) ⟨hS1B, ?_⟩
      replace hHeld := hS1B
      refine wpAnyH_done (by kernel_rfl) ?_ _
      go_wp2
      go_meet
      have hq : Below w1.heap.size w1 (w1.alloc (.cells #[.pointer (some ⟨C, 0, none⟩)] 28)) := (Below.refl _ w1).alloc (Nat.le_refl _) _
      refine ⟨w1.heap.size, C, Fc, rfl, heap_alloc_new w1 _, hP.below hq, fun k hk => ⟨by have := hFc k hk; simpa using this, by have := hP.uF k hk; omega⟩, hs1, ?_⟩
      exact ((below_undrew0 hb1).mono (by simp)).trans (hq.mono hs1)
    case bj =>
      have hHeld := hSA
      try simp only [Act.put, List.setIfInBounds_toArray, List.set_cons_zero, List.set_cons_succ]
      refine call_op (i := 8) (d := 33) (OP := Op.call { callee := Callee.value (Operand.func 27), args := #[Operand.tmp 28, Operand.tmp 32], argTypes := #[3, 57] }) (T := 28) (f := 27) (args := #[.int .i64 cap, .agg #[.slice x0 beg.a0.length c0, .slice x1 beg.a1.length c1, .int .i64 beg.u]]) rfl rfl rfl rfl (by kernel_rfl) (by rfl) (by go_simp) ?_
      refine (hfr2).mono ?_
      rintro e w2 ⟨C, Fc, rfl, hP, hFc, hb1⟩
      have hS2A : w2.cell? ⟨R, 0, none⟩ = some (.int .i64 cap) ∧ w2.cell? ⟨R, 1, none⟩ = some (.slice x0 beg.a0.length c0) ∧ w2.cell? ⟨R, 2, none⟩ = some (.slice x1 beg.a1.length c1) ∧ w2.cell? ⟨R, 3, none⟩ = some (.int .i64 beg.u) := ⟨(hb1.cell (by simp; omega)).trans hSA.1, (hb1.cell (by simp; omega)).trans hSA.2.1, (hb1.cell (by simp; omega)).trans hSA.2.2.1, (hb1.cell (by simp; omega)).trans hSA.2.2.2⟩
      have hcb := (hb1.block w.heap.size.succ (by simp)).trans hnewA
      have gcb : w2.cell? ⟨w.heap.size + 1, 0, none⟩ = some (.pointer none) := by rw [cell_of_row _ _ 0 _ 28 (0, 0) hcb]; rfl
      have gfb : w2.frozen? ⟨w.heap.size + 1, 0, none⟩ = false := frozen_of_row _ _ 0 _ 28 hcb
      have hS2B : (w2.setCell ⟨w.heap.size + 1, 0, none⟩ (.pointer (some ⟨C, 0, none⟩))).cell? ⟨R, 0, none⟩ = some (.int .i64 cap) ∧ (w2.setCell ⟨w.heap.size + 1, 0, none⟩ (.pointer (some ⟨C, 0, none⟩))).cell? ⟨R, 1, none⟩ = some (.slice x0 beg.a0.length c0) ∧ (w2.setCell ⟨w.heap.size + 1, 0, none⟩ (.pointer (some ⟨C, 0, none⟩))).cell? ⟨R, 2, none⟩ = some (.slice x1 beg.a1.length c1) ∧ (w2.setCell ⟨w.heap.size + 1, 0, none⟩ (.pointer (some ⟨C, 0, none⟩))).cell? ⟨R, 3, none⟩ = some (.int .i64 beg.u) := by
        have hq := grown_setCell w2 ⟨w.heap.size + 1, 0, none⟩ (.pointer (some ⟨C, 0, none⟩))
        have hq2 : some R ≠ some (w.heap.size + 1) := by simp; omega
        exact ⟨hq.cell hS2A.1 hq2, hq.cell hS2A.2.1 hq2, hq.cell hS2A.2.2.1 hq2, hq.cell hS2A.2.2.2 hq2⟩
      refine ⟨_, rfl, hS2A, ?_⟩
      replace hHeld := hS2A
      try simp only [Act.put, List.setIfInBounds_toArray, List.set_cons_zero, List.set_cons_succ]
      refine skip_op (i := 10) (OP := Op.store 28 (Operand.tmp 6) (Operand.tmp 33)) (T := 0) (w' := (w2.setCell ⟨w.heap.size + 1, 0, none⟩ (.pointer (some ⟨C, 0, none⟩)))) rfl rfl rfl rfl (by kernel_rfl) (by rfl) (by go_simp) ⟨hS2B, ?_⟩
      replace hHeld := hS2B
      refine wpAnyH_done (by kernel_rfl) ?_ _
      go_wp2
      go_meet
      have hset := Only.ofGrown (grown_setCell w2 ⟨w.heap.size + 1, 0, none⟩ (.pointer (some ⟨C, 0, none⟩)))
      refine ⟨w.heap.size + 1, C, Fc, rfl, ?_, ?_, ?_, Nat.le_refl _, ?_⟩
      · rw [heap_setCell_same _ _ _ _ 28 _ hcb]; simp
      · refine hP.only hset (fun j e hF => ?_) (fun j e hG => ?_)
        · have e' : w.heap.size + 1 = j := by simpa using e
          have := hFc j hF
          simp at this
          omega
        · have e' : w.heap.size + 1 = j := by simpa using e
          have := hGu j hG
          omega
      · intro k hk
        have := hFc k hk
        simp at this
        omega
      · have q1 : Below (w.heap.size + 1) ((w.alloc (.cells #[.int .i64 n] 3)).drewN nq) w2 := (((Below.refl _ ((w.alloc (.cells #[.int .i64 n] 3)).drewN nq)).drew).alloc (by simp) _).trans (hb1.mono (by simp))
        exact Below.only q1 hset (by have := hb1.size; simp at this; omega) (by intro j e; cases e; exact Nat.le_refl _)
  case rest =>
    obtain ⟨Cb, C, Fc, rfl, hCb, hPC, hFc, hCbs, hbc⟩ := hcut
    have hbw : Below w.heap.size w wc := hbq.trans (hbc.mono (by omega))
    have hN : wc.cell? ⟨w.heap.size, 0, none⟩ = some (.int .i64 n) := (hbc.cell (by simp)).trans hnN
    have hCbc : wc.cell? ⟨Cb, 0, none⟩ = some (.pointer (some ⟨C, 0, none⟩)) := by rw [cell_of_row _ _ 0 _ 28 (0, 0) hCb]; rfl
    have hPR := hide (H.out.below hbw)
    clear hS0 hSA hnewA hfr1 hfr2 hbq2 hbA h0 h4 h5 h6 h7 k1 k2 k3 kr0 kr1
    go_wp2_with (go_at_call 16; refine (all_any hPR.out).mono ?_; rintro e w1 ⟨L, lv, ys, rfl, hLb, hrow, hit, hL1, hL2, hb1, hFl⟩)
    have hs1 : wc.heap.size ≤ w1.heap.size := hb1.size
    have hCbl : Cb < wc.heap.size := (Array.getElem?_eq_some_iff.1 hCb).1
    have hrlt : ∀ j, lv.ownBlock = some j → j < w.heap.size := fun j hj => H.out.uF j (hFl j hj)
    have hbW : Below w.heap.size w w1 := hbw.trans (hb1.mono hbw.size)
    have hsw : w.heap.size < wc.heap.size := by omega
    have hGw : ∀ j, G j → j < w.heap.size := hGu
    have hPC1 := hPC.below hb1
    have hI0 : CutI G w cap beg log n Cb C L w1.heap.size 0 w1 := by
      refine ⟨Fc, G, hPC1, Nat.zero_le _, fun j hj => ?_, fun j hj => .inl hj, (hb1.cell hCbl).trans hCbc, (hb1.cell (by exact hsw)).trans hN, hbW⟩
      have a1 := hFc j hj
      have a2 := hPC.uF j hj
      exact ⟨a1.1, by omega, by omega, by omega, a1.2⟩
    have hfits := H.out.fits
    clear hPC hPC1 hFc
    refine range_log (Q := _) L lv G log ys rfl rfl ⟨hLb, (Only.ofBelow hb1).row hrow (fun _ _ d => d.elim), hit.only (Only.ofBelow hb1) (fun _ d => d.elim)⟩ ?hlen (by omega) (CutD w.heap.size L w1.heap.size Cb) (by unfold CutD; omega) (by unfold CutD; omega) (by unfold CutD; omega) (fun j hj => by have := hrlt j hj; unfold CutD; omega) (fun j hj hg => by have := hGu j hg; unfold CutD at hj; omega) (fun j hj => by have := hGu j hj; omega)
      (CutI G w cap beg log n Cb C L w1.heap.size) (fun cd W => cd = .exit 1 ∧ CutI G w cap beg log n Cb C L w1.heap.size n W)
      (fun k W W' hi ho => hi.only hGu (.inr rfl) (by omega) ho) (fun cd W W' hi ho => ⟨hi.1, hi.2.only hGu (.inr rfl) (by omega) ho⟩) hI0 ?hround ?hdone ?hstop
    case hlen => exact fun x hx => by have := (hfits.2 x hx).len; omega
    case hround =>
      intro k x ao c W0 W hx hi hbW0 hH hls
      obtain ⟨Fk, Gk, p1, p2, p3, p4, p5, p6, p7⟩ := hi
      obtain ⟨G', q1, q2, q3⟩ := p1.beside hbW0 hH.own hH.nil
      have hsW := hbW0.size
      have hts : log.take (k + 1) = log.take k ++ [x] := by
        obtain ⟨hk, rfl⟩ := List.getElem?_eq_some_iff.1 hx
        exact List.take_succ_eq_append_getElem hk
      have hok := hide (hfits.2 x (List.mem_of_getElem? hx))
      have hfit : Hid (Fit cap (play (plays beg (log.take k)) x)) := by
        have := hfits.1 (k + 1) (by have := (List.getElem?_eq_some_iff.1 hx).1; omega)
        rw [hts, plays_snoc] at this
        exact this
      have hlk : (log.take k).length < 1000000 := by simp; omega
      gi_wp2
      refine ⟨(Only.refl _ W).alloc _, fun W2 ho2 => ?_⟩
      have hbA : Below W.heap.size W (W.alloc (.cells #[.int .i64 x.kind, .int .i64 x.area, .slice ao x.data.length c] 50)) := (Below.refl _ W).alloc (Nat.le_refl _) _
      have hbA0 : Below W0.heap.size W0 (W.alloc (.cells #[.int .i64 x.kind, .int .i64 x.area, .slice ao x.data.length c] 50)) := hbW0.trans (hbA.mono hsW)
      have hsA : (W.alloc (.cells #[.int .i64 x.kind, .int .i64 x.area, .slice ao x.data.length c] 50)).heap.size = W.heap.size + 1 := by simp
      have hs2 := ho2.size
      obtain ⟨g0, g1, g2, _⟩ := blk3 ((ho2.block W.heap.size (by omega) (by omega)).trans (heap_alloc_new W _))
      have gC : W2.cell? ⟨Cb, 0, none⟩ = some (.pointer (some ⟨C, 0, none⟩)) := ho2.cell ((hbA0.cell (World.block_lt_of_cell? W0 _ p5)).trans p5) (by simp only; omega)
      have gN : W2.cell? ⟨w.heap.size, 0, none⟩ = some (.int .i64 n) := ho2.cell ((hbA0.cell (World.block_lt_of_cell? W0 _ p6)).trans p6) (by simp only; omega)
      have hP2 : PD Fk G' W2 C cap beg (log.take k) := (q1.below hbA).only ho2 (fun j e hF => by have := p3 j hF; unfold CutD at this; omega) (fun j e hg => by
        rcases q3 j hg with q | q
        · rcases p4 j q with r | r
          · have := hGu j r; omega
          · omega
        · omega)
      have hG2 := hide ((q2.below hbA).only ho2 (fun j e hg => by
        rcases q3 j hg with q | q
        · rcases p4 j q with r | r
          · have := hGu j r; omega
          · omega
        · omega))
      have hG' : ∀ j, G' j → G j ∨ (w.heap.size + 1 ≤ j ∧ j ≠ w1.heap.size ∧ j ≠ w1.heap.size + 1) := fun j hg => by
        rcases q3 j hg with q | q
        · exact p4 j q
        · exact .inr (by omega)
      have hB2 : Below w.heap.size w W2 := Below.only (p7.trans (hbA0.mono p7.size)) ho2 (by omega) (by intro j e; omega)
      have HP := hide hP2
      have HB := hide (And.intro hB2 (And.intro hG' p3))
      have hCN : Cb ≠ w.heap.size := by omega
      clear hP2 hB2 hG' p1 q1 q2 p4 p5 p6 p7 hbA hbA0 hH hbW0
      by_cases hkn : k = n
      · subst hkn
        gi_wp2
        obtain ⟨hB2, hG', hp3⟩ := HB.out
        exact ⟨Only.refl _ _, rfl, Fk, G', HP.out, Nat.le_refl _, hp3, hG', gC, gN, hB2⟩
      · have hkn' : ((k : Int) == (n : Int)) = false := by simp; omega
        gi_wp2_with (refine ⟨trivial, ?_⟩; gi_at_call 37; refine (CallsIn.inRound _ (callsIn_wide.2 (HP.out.do x ao c hok.out hG2.out hfit.out hlk))).mono ?_; rintro e W3 ⟨⟨v, rfl⟩, F3, hP3, hon3, hgr3⟩)
        obtain ⟨hB2, hG', hp3⟩ := HB.out
        have hs3 := hon3.size
        refine ⟨hon3.mono (fun j _ hj => hp3 j hj), F3, G', by rw [hts]; exact hP3, by omega, fun j hj => ?_, hG', hon3.cell gC (fun hF => (hp3 _ hF).2.2.2.2 rfl), hon3.cell gN (fun hF => by have := (hp3 _ hF).1; simp only at this; omega), Below.only hB2 hon3 hB2.size (fun j hj => by have := (hp3 j hj).1; omega)⟩
        rcases hgr3 j hj with q | q
        · exact hp3 j q
        · unfold CutD; omega
    case hdone =>
      intro W hi hls hK
      obtain ⟨Fk, Gk, p1, p2, p3, p4, p5, p6, p7⟩ := hi
      obtain rfl : log.length = n := by omega
      have HP := hide (And.intro p1 (And.intro p3 (And.intro p4 p7)))
      clear p1 p3 p4 p7
      go_wp2
      refine leave_mark (fn := Try.f17) hK (leave_none (results_tmp2 rfl _ _ _) ?_)
      obtain ⟨p1, p3, p4, p7⟩ := HP.out
      have ho := only_putObj W w1.heap.size (.deferred none)
      refine ⟨C, Fk, Gk, rfl, p1.only ho (fun j e hF => (p3 j hF).2.2.1 e) (fun j e hg => ?_), fun j hj => by have := (p3 j hj).1; omega, fun j hj => ?_, Below.only p7 ho p7.size (by intro j e; omega)⟩
      · rcases p4 j hg with q | q
        · have := hGu j q; omega
        · omega
      · rcases p4 j hj with q | q
        · exact .inl q
        · exact .inr (by omega)
    case hstop =>
      rintro cd W ⟨rfl, hi⟩ hls hK
      obtain ⟨Fk, Gk, p1, p2, p3, p4, p5, p6, p7⟩ := hi
      have HP := hide (And.intro p1 (And.intro p3 (And.intro p4 p7)))
      clear p1 p3 p4 p7
      go_wp2
      refine leave_mark (fn := Try.f17) hK (leave_none (results_tmp2 rfl _ _ _) ?_)
      obtain ⟨p1, p3, p4, p7⟩ := HP.out
      have ho := only_putObj W w1.heap.size (.deferred none)
      refine ⟨C, Fk, Gk, rfl, p1.only ho (fun j e hF => (p3 j hF).2.2.1 e) (fun j e hg => ?_), fun j hj => by have := (p3 j hj).1; omega, fun j hj => ?_, Below.only p7 ho p7.size (by intro j e; omega)⟩
      · rcases p4 j hg with q | q
        · have := hGu j q; omega
        · omega
      · rcases p4 j hj with q | q
        · exact .inl q
        · exact .inr (by omega)

set_option maxHeartbeats 400000 in
set_option maxRecDepth 100000 in
theorem copy_any (h : PD F G w R cap beg log) (hll : log.length < 1000000) :
    Calls Try.prog 30 #[.pointer (some ⟨R, 0, none⟩)] w fun e w' => ∃ C Fc Gc, e = .returned (.pointer (some ⟨C, 0, none⟩)) ∧ PD Fc Gc w' C cap beg log ∧ (∀ k, Fc k → w.heap.size ≤ k) ∧ Grown G Gc w ∧ Below w.heap.size w w' := by
  have h1 := writes_any h
  have h2 := cut_yes h log.length (Nat.le_refl _) hll
  rw [List.take_length] at h2
  clear h
  go_enter Try.func30, Try.ntmps30
  go_wp2_with (first | (go_at_call 19; refine h1.mono ?_; rintro e w1 ⟨rfl, rfl⟩) | (go_at_call 17; refine h2.mono ?_; rintro e w2 ⟨C, Fc, Gc, rfl, k1, k2, k3, k4⟩))
  go_ret
  exact ⟨C, Fc, Gc, rfl, k1, k2, k3, k4⟩
end
end Go.Proofs.Ytfaceimamipbpaa
