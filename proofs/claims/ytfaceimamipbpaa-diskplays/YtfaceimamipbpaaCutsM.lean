/-
  THE WALK over the statement DiskCuts, where the disk is made and the steps are few.
-/
import Derived.Test.YtfaceimamipbpaaCutsW
namespace Go.Proofs.Ytfaceimamipbpaa
open Go.RowKit Go.Shelf
set_option linter.unusedSimpArgs false
attribute [local go_sem] Oper.semAt_some

/-- What the disk of DiskCuts may write: not the boxes. -/
def CutsS (B Db : Nat) : Nat → Prop := fun k => B ≤ k ∧ k ≠ Db

theorem lay_len {cap : Int} {s : St} {ar : Int} {l : List Int} {log : List Wr} {k : Nat} (h : log.length ≤ k) : (layL cap s ar l log).length ≤ k + 1 := by
  unfold layL
  split
  · rw [List.length_append]; simp; omega
  · omega
theorem clear_len {ar : Int} {log : List Wr} {k : Nat} (h : log.length ≤ k) : (clearL ar log).length ≤ k + 1 := by
  unfold clearL
  split
  · rw [List.length_append]; simp; omega
  · omega
theorem Only.ofDrew {D : Nat → Prop} {w w' : World} (h : Only D w.drew w') : Only D w w' := ⟨h.os, h.tape, h.output, h.size, h.block⟩

/-- An operation in a region that draws its order, whose guard says no. -/
theorem pass_op {P : Program} {md : Region.Mode} {ops : Array Oper} {Q : Exit → Act → World → Prop} {S : World → Prop} {i : Nat} {oi : Oper} {d : Tmp} {fuel : Nat} {listed : Array Bool} {a : Act} {w : World} (hi : ops[i]? = some oi) (hd : oi.dst = some d)
    (hs : Region.noSelect ops = true) (hf : Region.free md ops listed i = true) (hr : (Region.ready md ops listed).contains i = true)
    (hQ : ∀ c a w, Q (.panic c) (a.put (some d) undef) w → Q (.panic c) a w) (hw : Region.wanted oi (yielded ops a.tmps) = false) (hS : S w)
    (h : wpAnyH P md ops Q S fuel (listed.setIfInBounds i true) (a.put (some d) undef) w) : wpAnyH P md ops Q S (fuel + 1) listed a w :=
  wpAnyH_take (v := undef) hi hs hf hr (by rw [hd]; exact hQ) (.inr ⟨hw, rfl⟩) hS (by rw [hd]; exact h)
theorem same_drewN {F G F' G' : Nat → Prop} {w : World} {A B : Nat} {cap : Int} {beg beg' : St} {log log' : List Wr} (hA : PD F G w A cap beg log) (hB : PD F' G' w B cap beg' log') (hs : plays beg log = plays beg' log') (n : Nat) :
    Calls Try.prog 18 #[.pointer (some ⟨A, 0, none⟩), .pointer (some ⟨B, 0, none⟩)] (w.drewN n) fun e w' => e = .returned (.bool true) ∧ ∃ m, w' = w.drewN m := by
  refine (same_yes (hA.drewN n) (hB.drewN n) hs).mono ?_
  rintro e w' ⟨h1, m, rfl⟩
  exact ⟨h1, n + m, by rw [World.drewN_drewN]⟩
theorem writes_drewN {F G : Nat → Prop} {w : World} {A : Nat} {cap : Int} {beg : St} {log : List Wr} (hA : PD F G w A cap beg log) (n : Nat) :
    Calls Try.prog 19 #[.pointer (some ⟨A, 0, none⟩)] (w.drewN n) fun e w' => e = .returned (.int .i64 (log.length : Int)) ∧ ∃ m, w' = w.drewN m := by
  refine (writes_any (hA.drewN n)).mono ?_
  rintro e w' ⟨h1, rfl⟩
  exact ⟨h1, n, rfl⟩
/-- A cell of its own is handed back, behind a range over a function. -/
theorem leave_cell {fn : Func} {tmps : Array Value} {p : Tmp} (b : Nat) {x : Bool} {R : Ending → World → Prop} {W : World} (h : fn.results = #[.cell p 4]) (hp : tmps.getD p undef = .pointer (some ⟨b, 0, none⟩))
    (hc : W.cell? ⟨b, 0, none⟩ = some (.bool x)) (hR : R (.returned (.bool x)) W) : LeavesInM Fence.wide 6 Try.prog fn tmps R [] .returning W := by
  refine leave_none (v := .bool x) ?_ hR
  rw [results_cell h, hp]
  have : (loadVar 4 ⟨b, 0, none⟩).run Try.prog W = .ok (.bool x) W := by go_simp
  simp [asAddr, Result.andThen, this]

/-- What a round may turn. -/
def AgainD (B Ab l0 : Nat) : Nat → Prop := fun j => B ≤ j ∧ j ≠ Ab ∧ j ≠ l0 ∧ j ≠ l0 + 1
/-- Where the disk that is made again stands behind k rounds. -/
def AgainI (w5 : World) (cap : Int) (beg : St) (log : List Wr) (A Ab Kb l0 : Nat) (k : Nat) (W : World) : Prop :=
  ∃ F G, PD F G W A cap beg (log.take k) ∧ (∀ j, F j → AgainD w5.heap.size Ab l0 j ∧ j ≠ Kb) ∧ (∀ j, G j → AgainD w5.heap.size Ab l0 j ∧ j ≠ Kb) ∧ W.cell? ⟨Ab, 0, none⟩ = some (.pointer (some ⟨A, 0, none⟩)) ∧ W.heap[Kb]? = some (.cells #[.int .i64 (k : Int)] 3 (0, 0)) ∧ Below w5.heap.size w5 W
theorem AgainI.only {w5 W W' : World} {cap : Int} {beg : St} {log : List Wr} {A Ab Kb l0 k m : Nat} (h : AgainI w5 cap beg log A Ab Kb l0 k W) (hm : m = l0 ∨ m = l0 + 1) (hlt : Ab < l0 ∧ Kb < l0 ∧ w5.heap.size ≤ l0) (ho : Only (fun j => j = m) W W') : AgainI w5 cap beg log A Ab Kb l0 k W' := by
  obtain ⟨F, G, h1, h2, h3, h4, h5, h6⟩ := h
  refine ⟨F, G, h1.only ho (fun j e hF => ?_) (fun j e hg => ?_), h2, h3, ho.cell h4 (by simp only; omega), (ho.block _ (Array.getElem?_eq_some_iff.1 h5).1 (by omega)).trans h5, Below.only h6 ho h6.size (by intro j e; omega)⟩
  · have := (h2 j hF).1
    unfold AgainD at this
    omega
  · have := (h3 j hg).1
    unfold AgainD at this
    omega
/-- What a round knows of its world. -/
structure RF (FA GA : Nat → Prop) (A Ab Kb Xb : Nat) (cap : Int) (beg : St) (lg : List Wr) (x : Wr) (ao : Option Addr) (c k : Nat) (W : World) : Prop where
  pd : PD FA GA W A cap beg lg
  ab : W.cell? ⟨Ab, 0, none⟩ = some (.pointer (some ⟨A, 0, none⟩))
  kb : W.heap[Kb]? = some (.cells #[.int .i64 (k : Int)] 3 (0, 0))
  xb : W.heap[Xb]? = some (.cells #[.int .i64 x.kind, .int .i64 x.area, .slice ao x.data.length c] 50 (0, 0))
  rd : Rd W ao x.data
theorem RF.below {FA GA : Nat → Prop} {A Ab Kb Xb : Nat} {cap : Int} {beg : St} {lg : List Wr} {x : Wr} {ao : Option Addr} {c k : Nat} {W W' : World} (h : RF FA GA A Ab Kb Xb cap beg lg x ao c k W) (hb : Below W.heap.size W W') : RF FA GA A Ab Kb Xb cap beg lg x ao c k W' where
  pd := h.pd.below hb
  ab := by rw [hb.cell (World.block_lt_of_cell? W _ h.ab)]; exact h.ab
  kb := (hb.block _ (Array.getElem?_eq_some_iff.1 h.kb).1).trans h.kb
  xb := (hb.block _ (Array.getElem?_eq_some_iff.1 h.xb).1).trans h.xb
  rd := h.rd.below hb

/-- The end of a round: the raw write is done again, one more is counted. -/
theorem again_end {w5 W2 Wc Wd : World} {FA GA : Nat → Prop} {A Ab Kb Xb l0 : Nat} {cap : Int} {beg : St} {log lg : List Wr} {x : Wr} {ao : Option Addr} {c k : Nat} (hrf : RF FA GA A Ab Kb Xb cap beg lg x ao c k Wc) (hO : Only (AgainD w5.heap.size Ab l0) W2 Wc) (hB : Below w5.heap.size w5 Wc)
    (p2 : ∀ j, FA j → AgainD w5.heap.size Ab l0 j ∧ j ≠ Kb) (p3 : ∀ j, GA j → AgainD w5.heap.size Ab l0 j ∧ j ≠ Kb) (hx : Next FA GA Wc A cap beg (log.take (k + 1)) Wd) (hs : l0 + 1 < Wc.heap.size ∧ Ab < Kb ∧ Kb < l0 ∧ w5.heap.size ≤ Ab) :
    Wd.cell? ⟨Kb, 0, none⟩ = some (.int .i64 (k : Int)) ∧ Wd.frozen? ⟨Kb, 0, none⟩ = false ∧
      ∀ q : Int, q = (k : Int) + 1 → Only (AgainD w5.heap.size Ab l0) W2 (Wd.setCell ⟨Kb, 0, none⟩ (.int .i64 q)) ∧ AgainI w5 cap beg log A Ab Kb l0 (k + 1) (Wd.setCell ⟨Kb, 0, none⟩ (.int .i64 q)) := by
  obtain ⟨F', G', h1, h2, h3, h4⟩ := hx
  have hkb := (h2.block Kb (by omega) (fun e => (p2 _ e).2 rfl)).trans hrf.kb
  have hon : Only (AgainD w5.heap.size Ab l0) W2 Wd := hO.trans h2 (fun j _ hj => (p2 j hj).1)
  have hF' : ∀ j, F' j → AgainD w5.heap.size Ab l0 j ∧ j ≠ Kb := fun j hj => by
    rcases h3 j hj with q | q
    · exact p2 j q
    · unfold AgainD; omega
  have hG' : ∀ j, G' j → AgainD w5.heap.size Ab l0 j ∧ j ≠ Kb := fun j hj => by
    rcases h4 j hj with q | q
    · exact p3 j q
    · unfold AgainD; omega
  refine ⟨by rw [cell_of_row _ _ 0 _ 3 (0, 0) hkb]; rfl, frozen_of_row _ _ 0 _ 3 hkb, ?_⟩
  rintro q rfl
  have hset := Only.ofGrown (grown_setCell Wd ⟨Kb, 0, none⟩ (.int .i64 ((k : Int) + 1)))
  have hBd : Below w5.heap.size w5 Wd := Below.only hB (h2.mono (D := AgainD w5.heap.size Ab l0) (fun j _ hj => (p2 j hj).1)) hB.size (fun j hj => hj.1)
  refine ⟨hon.setCell ⟨Kb, 0, none⟩ _ (fun _ => by unfold AgainD; simp only; omega), F', G', h1.only hset (fun j e hF => (hF' j hF).2 (by cases e; rfl)) (fun j e hg => (hG' j hg).2 (by cases e; rfl)), hF', hG', ?_, ?_, Below.only hBd hset hBd.size (by intro j e; cases e; simp only; omega)⟩
  · refine hset.cell (h2.cell hrf.ab (fun e => ?_)) (by simp; omega)
    have := (p2 _ e).1
    unfold AgainD at this
    simp only at this
    omega
  · rw [heap_setCell_same _ _ _ _ 3 _ hkb]; simp

set_option maxHeartbeats 8000000 in
set_option maxRecDepth 100000 in
theorem cuts_main (w : World) (cap u : Int) (x0 x1 so : Option Addr) (c0 c1 sc : Nat) (l0 l1 : List Int) (T : List Stp) (n m : Int) (he : ofE cap u l0 l1 = 0) (hns : T.length ≤ 60) (r0 : Rd w x0 l0) (r1 : Rd w x1 l1) (n0 : x0 = none → c0 = 0) (n1 : x1 = none → c1 = 0) (u0 : U8 l0) (u1 : U8 l1) (hT : StepsAt w so T) :
    Calls Try.prog 4 #[.agg #[.int .i64 cap, .int .i64 u, .slice x0 l0.length c0, .slice x1 l1.length c1], .slice so T.length sc, .int .i64 n, .int .i64 m] w fun e w' => e = .returned (.bool true) ∧ Below w.heap.size w w' := by
  have hb3 : Below w.heap.size w (cutW w cap u (.slice x0 l0.length c0) (.slice x1 l1.length c1) n) := (((Below.refl _ w).alloc (Nat.le_refl _) _).alloc (by simp) _).alloc (by simp; omega) _
  have hs3 : (cutW w cap u (.slice x0 l0.length c0) (.slice x1 l1.length c1) n).heap.size = w.heap.size + 3 := by simp [cutW]
  have hc := of_yes cap u x0 x1 c0 c1 l0 l1 (cutW w cap u (.slice x0 l0.length c0) (.slice x1 l1.length c1) n) he (r0.below hb3) (r1.below hb3) n0 n1 u0 u1
  have hd : decide (60 < T.length) = false := by simpa using hns
  have HE := hide (And.intro he (And.intro r0 (And.intro r1 (And.intro n0 (And.intro n1 (And.intro u0 u1))))))
  clear he r0 r1 n0 n1 u0 u1
  refine calls_marks Try.func4 rfl ?_
  simp only [Try.ntmps4, List.size_toArray, List.length_cons, List.length_nil, Nat.reduceAdd, Nat.reduceSub, Array.replicate_succ, Array.replicate_zero, List.push_toArray, List.append_toArray, List.nil_append, List.cons_append]
  go_wp2_with (go_at_call 8; refine hc.mono ?_; rintro e w1 ⟨R, F1, G1, rfl, hP1, hF1, hG1, b1⟩)
  have hsw1 : w.heap.size + 3 ≤ w1.heap.size := by have := b1.size; omega
  have hbA : Below w1.heap.size w1 (w1.alloc (.cells #[.pointer (some ⟨R, 0, none⟩)] 28)) := (Below.refl _ w1).alloc (Nat.le_refl _) _
  have hPS1 : PS (CutsS (w.heap.size + 3) w1.heap.size) (w1.alloc (.cells #[.pointer (some ⟨R, 0, none⟩)] 28)) R cap ⟨l0, l1, u⟩ [] := ⟨F1, G1, hP1.below hbA, fun k hk => ⟨by have := hF1 k hk; omega, by have := hP1.uF k hk; omega⟩⟩
  have hDb : (w1.alloc (.cells #[.pointer (some ⟨R, 0, none⟩)] 28)).cell? ⟨w1.heap.size, 0, none⟩ = some (.pointer (some ⟨R, 0, none⟩)) := by rw [cell_of_row _ _ 0 _ 28 (0, 0) (heap_alloc_new w1 _)]; rfl
  have hbox : Below (w.heap.size + 3) (cutW w cap u (.slice x0 l0.length c0) (.slice x1 l1.length c1) n) (w1.alloc (.cells #[.pointer (some ⟨R, 0, none⟩)] 28)) := (b1.mono (B' := w.heap.size + 3) (by omega)).alloc (by omega) _
  have hsz4 : (w1.alloc (.cells #[.pointer (some ⟨R, 0, none⟩)] 28)).heap.size = w1.heap.size + 1 := by simp
  clear hc hP1 hF1 hG1 b1 hbA
  go_loopw [11] (fun i wr => ∃ (k : Nat) (log : List Wr), k ≤ T.length ∧ i = .int .i64 k ∧ log.length ≤ k ∧ PS (CutsS (w.heap.size + 3) w1.heap.size) wr R cap ⟨l0, l1, u⟩ log ∧ Only (CutsS (w.heap.size + 3) w1.heap.size) (w1.alloc (.cells #[.pointer (some ⟨R, 0, none⟩)] 28)) wr) (fun i _ => T.length - (intOf i).toNat)
  case atStart => exact ⟨0, [], Nat.zero_le _, rfl, Nat.le_refl _, hPS1, Only.refl _ _⟩
  case round =>
    obtain ⟨k, log, hk, rfl, hlk, hPS, ho⟩ := hrel
    by_cases hlt : k < T.length
    · obtain ⟨x, hx⟩ : ∃ x, T[k]? = some x := ⟨_, List.getElem?_eq_getElem hlt⟩
      have hszr := ho.size
      have hbr : Below w.heap.size w wr := hb3.trans ((hbox.mono (by omega)).trans (ho.below (by omega) (fun j hj => by unfold CutsS at hj; omega)))
      obtain ⟨g, off, aj, cj, rfl, t1, t2, t3, tr, tn, tu, tl⟩ := (hT.below hbr).at hx
      have tg : g < w.heap.size := by
        obtain ⟨g', off', aj', cj', e1, e2, _⟩ := hT.at hx
        cases e1
        exact World.block_lt_of_cell? w _ e2
      have hD : wr.cell? ⟨w1.heap.size, 0, none⟩ = some (.pointer (some ⟨R, 0, none⟩)) := ho.cell hDb (by unfold CutsS; simp)
      have hSd : wr.drew.cell? ⟨w1.heap.size, 0, none⟩ = some (.pointer (some ⟨R, 0, none⟩)) ∧ wr.drew.cell? ⟨g, off + k * 3 + 1, none⟩ = some (.int .i64 x.n) ∧ wr.drew.cell? ⟨g, off + k * 3 + 2, none⟩ = some (.slice aj x.data.length cj) := ⟨hD, t2, t3⟩
      have hbd : Below wr.heap.size wr wr.drew := (Below.refl _ wr).drew
      have hSz : ∀ j, wr.heap.size ≤ j → CutsS (w.heap.size + 3) w1.heap.size j := fun j hj => by unfold CutsS; omega
      have hlay := (hPS.below hbd).lay hSz x.n aj cj x.data (tr.below hbd) tn tu tl (by omega)
      have hclr := (hPS.below hbd).clear hSz x.n (by omega)
      have htrn := hPS.turn hSz (by omega)
      have hki : (k : Int) < (T.length : Int) := by omega
      have hk0 : (0 : Int) ≤ (k : Int) := by omega
      have hdl : decide (k < T.length) = true := by simpa using hlt
      have HO := hide ho
      have HP := hide hPS
      clear ho hPS hx hT hPS1 hbr hbd tr tu
      by_cases hk1 : x.kind = 1
      · have hd1 : (x.kind == 1) = true := by simpa using hk1
        rw [hk1] at t1
        go_wp2
        refine wp_region_held_drew (S := (fun w' => w'.cell? ⟨w1.heap.size, 0, none⟩ = some (.pointer (some ⟨R, 0, none⟩)) ∧ w'.cell? ⟨g, off + k * 3 + 1, none⟩ = some (.int .i64 x.n) ∧ w'.cell? ⟨g, off + k * 3 + 2, none⟩ = some (.slice aj x.data.length cj))) (by kernel_rfl) (by exact hSd) (fun hHeld => ?_)
        try dsimp only at hHeld
        refine take_op (i := 0) (d := 67) (OP := Op.load 28 (Operand.tmp 9)) (T := 28) (v := ?vq1x) rfl rfl rfl rfl (by kernel_rfl) (by kernel_rfl) (by kernel_rfl) (fun _ _ _ h => h) (by rfl) ?hq1x hHeld ?rq1x
        case hq1x => (intro w' hSw; (try dsimp only at hSw); go_simp <;> with_reducible rfl)
        try simp only [Act.put, List.setIfInBounds_toArray, List.set_cons_zero, List.set_cons_succ]
        refine take_op (i := 1) (d := 68) (OP := Op.move (Operand.tmp 1)) (T := 25) (v := ?vq2x) rfl rfl rfl rfl (by kernel_rfl) (by kernel_rfl) (by kernel_rfl) (fun _ _ _ h => h) (by rfl) ?hq2x hHeld ?rq2x
        case hq2x => (intro w' hSw; (try dsimp only at hSw); go_simp <;> with_reducible rfl)
        try simp only [Act.put, List.setIfInBounds_toArray, List.set_cons_zero, List.set_cons_succ]
        refine take_op (i := 2) (d := 69) (OP := Op.move (Operand.tmp 11)) (T := 3) (v := ?vq3x) rfl rfl rfl rfl (by kernel_rfl) (by kernel_rfl) (by kernel_rfl) (fun _ _ _ h => h) (by rfl) ?hq3x hHeld ?rq3x
        case hq3x => (intro w' hSw; (try dsimp only at hSw); go_simp <;> with_reducible rfl)
        try simp only [Act.put, List.setIfInBounds_toArray, List.set_cons_zero, List.set_cons_succ]
        refine take_op (i := 3) (d := 70) (OP := Op.indexAddr 25 (Operand.tmp 68) (Operand.tmp 69)) (T := 0) (v := ?vq4x) rfl rfl rfl rfl (by kernel_rfl) (by kernel_rfl) (by kernel_rfl) (fun _ _ _ h => h) (by rfl) ?hq4x hHeld ?rq4x
        case hq4x => (intro w' hSw; (try dsimp only at hSw); go_simp <;> with_reducible rfl)
        try simp only [Act.put, List.setIfInBounds_toArray, List.set_cons_zero, List.set_cons_succ]
        refine take_op (i := 4) (d := 71) (OP := Op.fieldAddr 40 (Operand.tmp 70) 1) (T := 0) (v := ?vq5x) rfl rfl rfl rfl (by kernel_rfl) (by kernel_rfl) (by kernel_rfl) (fun _ _ _ h => h) (by rfl) ?hq5x hHeld ?rq5x
        case hq5x => (intro w' hSw; (try dsimp only at hSw); go_simp <;> with_reducible rfl)
        try simp only [Act.put, List.setIfInBounds_toArray, List.set_cons_zero, List.set_cons_succ]
        refine take_op (i := 5) (d := 72) (OP := Op.load 3 (Operand.tmp 71)) (T := 3) (v := ?vq6x) rfl rfl rfl rfl (by kernel_rfl) (by kernel_rfl) (by kernel_rfl) (fun _ _ _ h => h) (by rfl) ?hq6x hHeld ?rq6x
        case hq6x => (intro w' hSw; (try dsimp only at hSw); go_simp <;> with_reducible rfl)
        try simp only [Act.put, List.setIfInBounds_toArray, List.set_cons_zero, List.set_cons_succ]
        refine take_op (i := 6) (d := 73) (OP := Op.move (Operand.tmp 1)) (T := 25) (v := ?vq7x) rfl rfl rfl rfl (by kernel_rfl) (by kernel_rfl) (by kernel_rfl) (fun _ _ _ h => h) (by rfl) ?hq7x hHeld ?rq7x
        case hq7x => (intro w' hSw; (try dsimp only at hSw); go_simp <;> with_reducible rfl)
        try simp only [Act.put, List.setIfInBounds_toArray, List.set_cons_zero, List.set_cons_succ]
        refine take_op (i := 7) (d := 74) (OP := Op.move (Operand.tmp 11)) (T := 3) (v := ?vq8x) rfl rfl rfl rfl (by kernel_rfl) (by kernel_rfl) (by kernel_rfl) (fun _ _ _ h => h) (by rfl) ?hq8x hHeld ?rq8x
        case hq8x => (intro w' hSw; (try dsimp only at hSw); go_simp <;> with_reducible rfl)
        try simp only [Act.put, List.setIfInBounds_toArray, List.set_cons_zero, List.set_cons_succ]
        refine take_op (i := 8) (d := 75) (OP := Op.indexAddr 25 (Operand.tmp 73) (Operand.tmp 74)) (T := 0) (v := ?vq9x) rfl rfl rfl rfl (by kernel_rfl) (by kernel_rfl) (by kernel_rfl) (fun _ _ _ h => h) (by rfl) ?hq9x hHeld ?rq9x
        case hq9x => (intro w' hSw; (try dsimp only at hSw); go_simp <;> with_reducible rfl)
        try simp only [Act.put, List.setIfInBounds_toArray, List.set_cons_zero, List.set_cons_succ]
        refine take_op (i := 9) (d := 76) (OP := Op.fieldAddr 40 (Operand.tmp 75) 2) (T := 0) (v := ?vq10x) rfl rfl rfl rfl (by kernel_rfl) (by kernel_rfl) (by kernel_rfl) (fun _ _ _ h => h) (by rfl) ?hq10x hHeld ?rq10x
        case hq10x => (intro w' hSw; (try dsimp only at hSw); go_simp <;> with_reducible rfl)
        try simp only [Act.put, List.setIfInBounds_toArray, List.set_cons_zero, List.set_cons_succ]
        refine take_op (i := 10) (d := 77) (OP := Op.load 22 (Operand.tmp 76)) (T := 22) (v := ?vq11x) rfl rfl rfl rfl (by kernel_rfl) (by kernel_rfl) (by kernel_rfl) (fun _ _ _ h => h) (by rfl) ?hq11x hHeld ?rq11x
        case hq11x => (intro w' hSw; (try dsimp only at hSw); go_simp <;> with_reducible rfl)
        try simp only [Act.put, List.setIfInBounds_toArray, List.set_cons_zero, List.set_cons_succ]
        refine call_op (i := 11) (d := 78) (OP := Op.call { callee := Callee.value (Operand.func 13), args := #[Operand.tmp 67, Operand.tmp 72, Operand.tmp 77], argTypes := #[28, 3, 22] }) (T := 29) (f := 13) (args := #[.pointer (some ⟨R, 0, none⟩), .int .i64 x.n, .slice aj x.data.length cj]) rfl rfl rfl rfl (by kernel_rfl) (by rfl) (by go_simp) ?_
        refine (hlay).mono ?_
        rintro e w2 ⟨rfl, hp2, ho2⟩
        have hKw2 : w2.cell? ⟨w1.heap.size, 0, none⟩ = some (.pointer (some ⟨R, 0, none⟩)) ∧ w2.cell? ⟨g, off + k * 3 + 1, none⟩ = some (.int .i64 x.n) ∧ w2.cell? ⟨g, off + k * 3 + 2, none⟩ = some (.slice aj x.data.length cj) := ⟨ho2.cell hHeld.1 (by unfold CutsS; simp), ho2.cell hHeld.2.1 (by unfold CutsS; simp only; omega), ho2.cell hHeld.2.2 (by unfold CutsS; simp only; omega)⟩
        refine ⟨_, rfl, hKw2, ?_⟩
        replace hHeld := hKw2
        try simp only [Act.put, List.setIfInBounds_toArray, List.set_cons_zero, List.set_cons_succ]
        refine wpAnyH_done (by kernel_rfl) ?_ _
        go_wp2
        go_roundw
        case rel => exact ⟨k + 1, _, by omega, by go_num, lay_len hlk, hp2, HO.out.trans (Only.ofDrew ho2) (fun _ _ h => h)⟩
        case measure => simp [intOf]; omega
      · have hd1 : (x.kind == 1) = false := by simpa using hk1
        by_cases hk2 : x.kind = 2
        · have hd2 : (x.kind == 2) = true := by simpa using hk2
          rw [hk2] at t1
          go_wp2
          refine wp_region_held_drew (S := (fun w' => w'.cell? ⟨w1.heap.size, 0, none⟩ = some (.pointer (some ⟨R, 0, none⟩)) ∧ w'.cell? ⟨g, off + k * 3 + 1, none⟩ = some (.int .i64 x.n) ∧ w'.cell? ⟨g, off + k * 3 + 2, none⟩ = some (.slice aj x.data.length cj))) (by kernel_rfl) (by exact hSd) (fun hHeld => ?_)
          try dsimp only at hHeld
          refine take_op (i := 0) (d := 81) (OP := Op.load 28 (Operand.tmp 9)) (T := 28) (v := ?vq13x) rfl rfl rfl rfl (by kernel_rfl) (by kernel_rfl) (by kernel_rfl) (fun _ _ _ h => h) (by rfl) ?hq13x hHeld ?rq13x
          case hq13x => (intro w' hSw; (try dsimp only at hSw); go_simp <;> with_reducible rfl)
          try simp only [Act.put, List.setIfInBounds_toArray, List.set_cons_zero, List.set_cons_succ]
          refine take_op (i := 1) (d := 82) (OP := Op.move (Operand.tmp 1)) (T := 25) (v := ?vq14x) rfl rfl rfl rfl (by kernel_rfl) (by kernel_rfl) (by kernel_rfl) (fun _ _ _ h => h) (by rfl) ?hq14x hHeld ?rq14x
          case hq14x => (intro w' hSw; (try dsimp only at hSw); go_simp <;> with_reducible rfl)
          try simp only [Act.put, List.setIfInBounds_toArray, List.set_cons_zero, List.set_cons_succ]
          refine take_op (i := 2) (d := 83) (OP := Op.move (Operand.tmp 11)) (T := 3) (v := ?vq15x) rfl rfl rfl rfl (by kernel_rfl) (by kernel_rfl) (by kernel_rfl) (fun _ _ _ h => h) (by rfl) ?hq15x hHeld ?rq15x
          case hq15x => (intro w' hSw; (try dsimp only at hSw); go_simp <;> with_reducible rfl)
          try simp only [Act.put, List.setIfInBounds_toArray, List.set_cons_zero, List.set_cons_succ]
          refine take_op (i := 3) (d := 84) (OP := Op.indexAddr 25 (Operand.tmp 82) (Operand.tmp 83)) (T := 0) (v := ?vq16x) rfl rfl rfl rfl (by kernel_rfl) (by kernel_rfl) (by kernel_rfl) (fun _ _ _ h => h) (by rfl) ?hq16x hHeld ?rq16x
          case hq16x => (intro w' hSw; (try dsimp only at hSw); go_simp <;> with_reducible rfl)
          try simp only [Act.put, List.setIfInBounds_toArray, List.set_cons_zero, List.set_cons_succ]
          refine take_op (i := 4) (d := 85) (OP := Op.fieldAddr 40 (Operand.tmp 84) 1) (T := 0) (v := ?vq17x) rfl rfl rfl rfl (by kernel_rfl) (by kernel_rfl) (by kernel_rfl) (fun _ _ _ h => h) (by rfl) ?hq17x hHeld ?rq17x
          case hq17x => (intro w' hSw; (try dsimp only at hSw); go_simp <;> with_reducible rfl)
          try simp only [Act.put, List.setIfInBounds_toArray, List.set_cons_zero, List.set_cons_succ]
          refine take_op (i := 5) (d := 86) (OP := Op.load 3 (Operand.tmp 85)) (T := 3) (v := ?vq18x) rfl rfl rfl rfl (by kernel_rfl) (by kernel_rfl) (by kernel_rfl) (fun _ _ _ h => h) (by rfl) ?hq18x hHeld ?rq18x
          case hq18x => (intro w' hSw; (try dsimp only at hSw); go_simp <;> with_reducible rfl)
          try simp only [Act.put, List.setIfInBounds_toArray, List.set_cons_zero, List.set_cons_succ]
          refine call_op (i := 6) (d := 87) (OP := Op.call { callee := Callee.value (Operand.func 14), args := #[Operand.tmp 81, Operand.tmp 86], argTypes := #[28, 3] }) (T := 29) (f := 14) (args := #[.pointer (some ⟨R, 0, none⟩), .int .i64 x.n]) rfl rfl rfl rfl (by kernel_rfl) (by rfl) (by go_simp) ?_
          refine (hclr).mono ?_
          rintro e w2 ⟨rfl, hp2, ho2⟩
          have hKw2 : w2.cell? ⟨w1.heap.size, 0, none⟩ = some (.pointer (some ⟨R, 0, none⟩)) ∧ w2.cell? ⟨g, off + k * 3 + 1, none⟩ = some (.int .i64 x.n) ∧ w2.cell? ⟨g, off + k * 3 + 2, none⟩ = some (.slice aj x.data.length cj) := ⟨ho2.cell hHeld.1 (by unfold CutsS; simp), ho2.cell hHeld.2.1 (by unfold CutsS; simp only; omega), ho2.cell hHeld.2.2 (by unfold CutsS; simp only; omega)⟩
          refine ⟨_, rfl, hKw2, ?_⟩
          replace hHeld := hKw2
          try simp only [Act.put, List.setIfInBounds_toArray, List.set_cons_zero, List.set_cons_succ]
          refine wpAnyH_done (by kernel_rfl) ?_ _
          go_wp2
          go_roundw
          case rel => exact ⟨k + 1, _, by omega, by go_num, clear_len hlk, hp2, HO.out.trans (Only.ofDrew ho2) (fun _ _ h => h)⟩
          case measure => simp [intOf]; omega
        · have hd2 : (x.kind == 2) = false := by simpa using hk2
          by_cases hk3 : x.kind = 3
          · have hd3 : (x.kind == 3) = true := by simpa using hk3
            rw [hk3] at t1
            go_wp2_with (go_at_call 15; refine htrn.mono ?_; rintro e w2 ⟨rfl, hp2, ho2⟩)
            go_roundw
            case rel => exact ⟨k + 1, _, by omega, by go_num, by rw [List.length_append]; simp; omega, hp2, HO.out.trans ho2 (fun _ _ h => h)⟩
            case measure => simp [intOf]; omega
          · have hd3 : (x.kind == 3) = false := by simpa using hk3
            go_wp2
            go_roundw
            case rel => exact ⟨k + 1, _, by omega, by go_num, by omega, HP.out, HO.out⟩
            case measure => simp [intOf]; omega
    · obtain rfl : k = T.length := by omega
      have hszr := ho.size
      have hoB : Below (w.heap.size + 3) (w1.alloc (.cells #[.pointer (some ⟨R, 0, none⟩)] 28)) wr := ho.below (by omega) (fun j hj => by unfold CutsS at hj; omega)
      have hbX : Below (w.heap.size + 3) (cutW w cap u (.slice x0 l0.length c0) (.slice x1 l1.length c1) n) wr := hbox.trans hoB
      have hbr : Below w.heap.size w wr := hb3.trans (hbX.mono (by omega))
      have hD : wr.cell? ⟨w1.heap.size, 0, none⟩ = some (.pointer (some ⟨R, 0, none⟩)) := ho.cell hDb (by unfold CutsS; simp)
      obtain ⟨F, G, hPD, hF⟩ := hPS
      have HB := hide (And.intro hbX (And.intro hbr (And.intro hPD hF)))
      clear ho hoB hbox hPS1 hDb hT
      go_wp2_with (first
        | (go_at_call 16; refine (all_any HB.out.2.2.1).mono ?_; rintro e w5 ⟨L, vl, xs, rfl, hLb, hrow, hit, hL1, hL2, b5, hFl⟩; have hfe := fn_eq w5 L; have HB5 := hide (HB.out.1.trans (b5.mono (by omega))); obtain ⟨z1, z2, z3⟩ := cutW_boxes w cap u _ _ n w5 HB5.out; obtain ⟨y1, y2, y3, y4⟩ := blk4 z1; have hbw5 := hide (HB.out.2.1.trans (b5.mono HB.out.2.1.size)))
        | (go_at_call 8; refine (of_yes cap u x0 x1 c0 c1 l0 l1 w5 HE.out.1 (HE.out.2.1.below hbw5.out) (HE.out.2.2.1.below hbw5.out) HE.out.2.2.2.1 HE.out.2.2.2.2.1 HE.out.2.2.2.2.2.1 HE.out.2.2.2.2.2.2).mono ?_; rintro e w7 ⟨A, FA, GA, rfl, hPA, hFA, hGA, b7⟩))
      have hs7 : w5.heap.size ≤ w7.heap.size := b7.size
      have hb8 : Below w7.heap.size w7 ((w7.alloc (.cells #[.pointer (some ⟨A, 0, none⟩)] 28)).alloc (.cells #[.int .i64 0] 3)) := ((Below.refl _ w7).alloc (Nat.le_refl _) _).alloc (by simp) _
      have hs8 : ((w7.alloc (.cells #[.pointer (some ⟨A, 0, none⟩)] 28)).alloc (.cells #[.int .i64 0] 3)).heap.size = w7.heap.size + 2 := by simp
      obtain ⟨v1, v2⟩ := new2 w7 (.cells #[.pointer (some ⟨A, 0, none⟩)] 28) (.cells #[.int .i64 0] 3)
      have hszr5 := b5.size
      obtain ⟨_, _, hPD, hF⟩ := HB.out
      have hPD5 := hide (hPD.below b5)
      have hD5 : w5.cell? ⟨w1.heap.size, 0, none⟩ = some (.pointer (some ⟨R, 0, none⟩)) := (b5.cell (World.block_lt_of_cell? wr _ hD)).trans hD
      have hGu := hPD.uG
      have hFu := hPD.uF
      have hI0 : AgainI w5 cap ⟨l0, l1, u⟩ log A w7.heap.size (w7.heap.size + 1) (w7.heap.size + 2) 0 ((w7.alloc (.cells #[.pointer (some ⟨A, 0, none⟩)] 28)).alloc (.cells #[.int .i64 0] 3)) := by
        refine ⟨FA, GA, hPA.below hb8, fun j hj => ?_, fun j hj => ?_, ?_, v2, b7.trans (hb8.mono hs7)⟩
        · have a1 := hFA j hj; have a2 := hPA.uF j hj; unfold AgainD; omega
        · have a1 := hGA j hj; have a2 := hPA.uG j hj; unfold AgainD; omega
        · rw [cell_of_row _ _ 0 _ 28 (0, 0) v1]; rfl
      have hlog5 : LogAt ((w7.alloc (.cells #[.pointer (some ⟨A, 0, none⟩)] 28)).alloc (.cells #[.int .i64 0] 3)) L vl G log xs := by
        have h5 : LogAt w5 L vl G log xs := ⟨hLb, (Only.ofBelow b5).row hrow (fun _ _ d => d.elim), hit.only (Only.ofBelow b5) (fun _ d => d.elim)⟩
        exact (h5.below b7).below hb8
      have hfits := hPD.fits
      have Hn5 := hide z2
      clear hPA hFA hGA hPD hF v1 v2 hit hrow hLb z1 z2 z3 y1 y2 y3 y4
      refine range_log (Q := _) L vl G log xs rfl rfl hlog5 ?hlen (by omega) (AgainD w5.heap.size w7.heap.size (w7.heap.size + 2)) (by unfold AgainD; omega) (by unfold AgainD; omega) (by unfold AgainD; omega) (fun j hj => by have := hFu j (hFl j hj); unfold AgainD; omega) (fun j hj hg => by have := hGu j hg; unfold AgainD at hj; omega) (fun j hj => by have := hGu j hj; omega)
        (AgainI w5 cap ⟨l0, l1, u⟩ log A w7.heap.size (w7.heap.size + 1) (w7.heap.size + 2)) (fun _ _ => False)
        (fun k W W' hi ho => hi.only (.inr rfl) (by omega) (by rw [hs8] at ho; exact ho)) (fun _ _ _ hi _ => hi) hI0 ?hround ?hdone ?hstop
      case hlen => exact fun x hx => by have := (hfits.2 x hx).len; omega
      case hstop => exact fun _ _ hi => hi.elim
      case hround =>
        intro k x ao c W0 W hx hi hbW0 hH hls
        rw [hs8] at hls
        obtain ⟨FA, GA, p1, p2, p3, p4, p5, p6⟩ := hi
        have hkl := (List.getElem?_eq_some_iff.1 hx).1
        have hsW := hbW0.size
        have hts : log.take (k + 1) = log.take k ++ [x] := by
          obtain ⟨hk, rfl⟩ := List.getElem?_eq_some_iff.1 hx
          exact List.take_succ_eq_append_getElem hk
        have hok := hfits.2 x (List.mem_of_getElem? hx)
        have hfit : Fit cap (play (plays ⟨l0, l1, u⟩ (log.take k)) x) := by
          have := hfits.1 (k + 1) (by omega)
          rw [hts, plays_snoc] at this
          exact this
        have hlk : (log.take k).length = k := by simp; omega
        gi_wp2
        refine ⟨(Only.refl _ W).alloc _, fun W2 ho2 => ?_⟩
        have hbA : Below W.heap.size W (W.alloc (.cells #[.int .i64 x.kind, .int .i64 x.area, .slice ao x.data.length c] 50)) := (Below.refl _ W).alloc (Nat.le_refl _) _
        have hbA0 : Below W0.heap.size W0 (W.alloc (.cells #[.int .i64 x.kind, .int .i64 x.area, .slice ao x.data.length c] 50)) := hbW0.trans (hbA.mono hsW)
        have hsA : (W.alloc (.cells #[.int .i64 x.kind, .int .i64 x.area, .slice ao x.data.length c] 50)).heap.size = W.heap.size + 1 := by simp
        rw [hs8] at ho2 ⊢
        have hs2 := ho2.size
        have hsW0 : w7.heap.size + 3 < W0.heap.size := by omega
        have hrf : RF FA GA A w7.heap.size (w7.heap.size + 1) W.heap.size cap ⟨l0, l1, u⟩ (log.take k) x ao c k W2 := by
          refine ⟨(p1.below hbA0).only ho2 (fun j e hF => ?_) (fun j e hg => ?_), ho2.cell ((hbA0.cell (World.block_lt_of_cell? W0 _ p4)).trans p4) (by simp only; omega), (ho2.block _ (by omega) (by omega)).trans ((hbA0.block _ (by omega)).trans p5), (ho2.block W.heap.size (by omega) (by omega)).trans (heap_alloc_new W _), ho2.rd (hH.own.rd.below hbA) (fun a ha e => by have := (hH.own.blk a ha).1; omega)⟩
          · have := (p2 j hF).1; unfold AgainD at this; omega
          · have := (p3 j hg).1; unfold AgainD at this; omega
        have hB2 : Below w5.heap.size w5 W2 := Below.only (p6.trans (hbA0.mono p6.size)) ho2 (by omega) (by intro j e; omega)
        have hPD2 := hide (hPD5.out.below hB2)
        have hD2 : W2.cell? ⟨w1.heap.size, 0, none⟩ = some (.pointer (some ⟨R, 0, none⟩)) := (hB2.cell (World.block_lt_of_cell? w5 _ hD5)).trans hD5
        have hn2 : W2.cell? ⟨w.heap.size + 1, 0, none⟩ = some (.int .i64 n) := (hB2.cell (World.block_lt_of_cell? w5 _ Hn5.out)).trans Hn5.out
        have gAb := hrf.ab
        have gKb : W2.cell? ⟨w7.heap.size + 1, 0, none⟩ = some (.int .i64 (k : Int)) := by rw [cell_of_row _ _ 0 _ 3 (0, 0) hrf.kb]; rfl
        obtain ⟨gx0, gx1, gx2, _⟩ := blk3 hrf.xb
        have hl13 : ∀ Wc, RF FA GA A w7.heap.size (w7.heap.size + 1) W.heap.size cap ⟨l0, l1, u⟩ (log.take k) x ao c k Wc → x.kind = 1 → Calls Try.prog 13 #[.pointer (some ⟨A, 0, none⟩), .int .i64 x.area, .slice ao x.data.length c] Wc fun e w' => (∃ v, e = .returned v) ∧ Next FA GA Wc A cap ⟨l0, l1, u⟩ (log.take (k + 1)) w' := fun Wc hc hk => by
          refine (lay_call hc.pd x.area ao c x.data hc.rd hH.nil hok.bytes (by have := hok.len; omega) (by omega)).mono ?_
          rintro e w' ⟨he, hn⟩
          rw [(lay_next hk hok hfit).2, ← hts] at hn
          exact ⟨⟨_, he⟩, hn⟩
        have hl14 : ∀ Wc, RF FA GA A w7.heap.size (w7.heap.size + 1) W.heap.size cap ⟨l0, l1, u⟩ (log.take k) x ao c k Wc → x.kind = 2 → Calls Try.prog 14 #[.pointer (some ⟨A, 0, none⟩), .int .i64 x.area] Wc fun e w' => (∃ v, e = .returned v) ∧ Next FA GA Wc A cap ⟨l0, l1, u⟩ (log.take (k + 1)) w' := fun Wc hc hk => by
          refine (clear_call hc.pd x.area (by omega)).mono ?_
          rintro e w' ⟨he, hn⟩
          rw [clear_next hk hok, ← hts] at hn
          exact ⟨⟨_, he⟩, hn⟩
        have hl15 : ∀ Wc, RF FA GA A w7.heap.size (w7.heap.size + 1) W.heap.size cap ⟨l0, l1, u⟩ (log.take k) x ao c k Wc → x.kind = 3 → Calls Try.prog 15 #[.pointer (some ⟨A, 0, none⟩)] Wc fun e w' => (∃ v, e = .returned v) ∧ Next FA GA Wc A cap ⟨l0, l1, u⟩ (log.take (k + 1)) w' := fun Wc hc hk => by
          refine (turn_call hc.pd (by omega)).mono ?_
          rintro e w' ⟨he, hn⟩
          rw [turn_next hk hok, ← hts] at hn
          exact ⟨⟨_, he⟩, hn⟩
        have hend : ∀ Wc Wd, RF FA GA A w7.heap.size (w7.heap.size + 1) W.heap.size cap ⟨l0, l1, u⟩ (log.take k) x ao c k Wc → Below W2.heap.size W2 Wc → Next FA GA Wc A cap ⟨l0, l1, u⟩ (log.take (k + 1)) Wd → _ := fun Wc Wd hc hbc hn =>
          again_end (w5 := w5) (W2 := W2) (l0 := w7.heap.size + 2) (log := log) hc ((Only.ofBelow hbc).mono (fun _ _ d => d.elim)) (hB2.trans (hbc.mono hB2.size)) p2 p3 hn (by have := hbc.size; omega)
        have HRF := hide hrf
        have HKD := hide hok.kind
        have hcut := cut_yes hPD2.out k (by omega) (by omega)
        clear p1 p2 p3 p4 p5 p6 hrf hH hbW0 hbA hbA0 hok hfit hts hx ho2 hI0 hlog5
        have hb0 : Below W2.heap.size W2 W2 := Below.refl _ _
        by_cases hkn : (k : Int) = n
        · subst hkn
          gi_wp2_with (refine ⟨trivial, ?_⟩; gi_at_call 17; refine (CallsIn.inRound _ (callsIn_wide.2 hcut)).mono ?_; rintro e W3 ⟨C, Fc, Gc, rfl, hPC, _, _, b3⟩)
          have bd : Below W3.heap.size W3 W3.drew := (Below.refl _ W3).drew
          have hbc : ∀ nq, Below W2.heap.size W2 (W3.drew.drewN nq) := fun nq => (b3.trans ((bd.mono b3.size))).trans ((below_drew _ nq).mono (by simpa using b3.size))
          have hrf3 := HRF.out.below (hbc 0)
          have hS23 : W3.drew.cell? ⟨w7.heap.size, 0, none⟩ = some (.pointer (some ⟨A, 0, none⟩)) ∧ W3.drew.cell? ⟨w.heap.size + 1, 0, none⟩ = some (.int .i64 (k : Int)) := ⟨hrf3.ab, (hbc 0).cell (World.block_lt_of_cell? W2 _ hn2) |>.trans hn2⟩
          have hsame := same_yes (hPC.below bd) (HRF.out.below (b3.trans (bd.mono b3.size))).pd rfl
          have hwrt : ∀ nq, Calls Try.prog 19 #[.pointer (some ⟨C, 0, none⟩)] (W3.drew.drewN nq) fun e w' => e = .returned (.int .i64 (k : Int)) ∧ W3.drew.drewN nq = w' := fun nq => by
            refine (writes_any ((hPC.below bd).drewN nq)).mono ?_
            rintro e w' ⟨he, hw⟩
            rw [hlk] at he
            exact ⟨he, hw⟩
          clear gAb gKb gx0 gx1 gx2 hrf3 hcut
          refine region_in (S := (fun w' => w'.cell? ⟨w7.heap.size, 0, none⟩ = some (.pointer (some ⟨A, 0, none⟩)) ∧ w'.cell? ⟨w.heap.size + 1, 0, none⟩ = some (.int .i64 (k : Int)))) (by kernel_rfl) (by kernel_rfl) (fun _ _ h => h) (by exact hS23) (fun hHeld => ?_)
          try dsimp only at hHeld
          refine take_op (i := 0) (d := 120) (OP := Op.move (Operand.tmp 19)) (T := 29) (v := ?vq124x) rfl rfl rfl rfl (by kernel_rfl) (by kernel_rfl) (by kernel_rfl) (fun _ _ _ h => h) (by rfl) ?hq124x hHeld ?rq124x
          case hq124x => (intro w' hSw; (try dsimp only at hSw); go_simp <;> with_reducible rfl)
          try simp only [Act.put, List.setIfInBounds_toArray, List.set_cons_zero, List.set_cons_succ]
          refine take_op (i := 1) (d := 121) (OP := Op.binOp BinOp.neq 29 (Operand.tmp 120) (Operand.const (Value.int IntKind.i64 0)) 29) (T := 4) (v := ?vq125x) rfl rfl rfl rfl (by kernel_rfl) (by kernel_rfl) (by kernel_rfl) (fun _ _ _ h => h) (by rfl) ?hq125x hHeld ?rq125x
          case hq125x => (intro w' hSw; (try dsimp only at hSw); go_simp <;> with_reducible rfl)
          try simp only [Act.put, List.setIfInBounds_toArray, List.set_cons_zero, List.set_cons_succ]
          refine take_op (i := 2) (d := 122) (OP := Op.move (Operand.tmp 121)) (T := 4) (v := ?vq126x) rfl rfl rfl rfl (by kernel_rfl) (by kernel_rfl) (by kernel_rfl) (fun _ _ _ h => h) (by rfl) ?hq126x hHeld ?rq126x
          case hq126x => (intro w' hSw; (try dsimp only at hSw); go_simp <;> with_reducible rfl)
          try simp only [Act.put, List.setIfInBounds_toArray, List.set_cons_zero, List.set_cons_succ]
          refine take_op (i := 3) (d := 123) (OP := Op.move (Operand.tmp 18)) (T := 28) (v := ?vq127x) rfl rfl rfl rfl (by kernel_rfl) (by kernel_rfl) (by kernel_rfl) (fun _ _ _ h => h) (by rfl) ?hq127x hHeld ?rq127x
          case hq127x => (intro w' hSw; (try dsimp only at hSw); go_simp <;> with_reducible rfl)
          try simp only [Act.put, List.setIfInBounds_toArray, List.set_cons_zero, List.set_cons_succ]
          refine take_op (i := 4) (d := 124) (OP := Op.load 28 (Operand.tmp 13)) (T := 28) (v := ?vq128x) rfl rfl rfl rfl (by kernel_rfl) (by kernel_rfl) (by kernel_rfl) (fun _ _ _ h => h) (by rfl) ?hq128x hHeld ?rq128x
          case hq128x => (intro w' hSw; (try dsimp only at hSw); go_simp <;> with_reducible rfl)
          try simp only [Act.put, List.setIfInBounds_toArray, List.set_cons_zero, List.set_cons_succ]
          refine call_op (i := 5) (d := 125) (OP := Op.call { callee := Callee.value (Operand.func 18), args := #[Operand.tmp 123, Operand.tmp 124], argTypes := #[28, 28] }) (T := 4) (f := 18) (args := #[.pointer (some ⟨C, 0, none⟩), .pointer (some ⟨A, 0, none⟩)]) rfl rfl rfl rfl (by kernel_rfl) (by rfl) (by go_simp) ?_
          refine (hsame).mono ?_
          rintro e W4 ⟨rfl, nq, rfl⟩
          have hKs : (W3.drew.drewN nq).cell? ⟨w7.heap.size, 0, none⟩ = some (.pointer (some ⟨A, 0, none⟩)) ∧ (W3.drew.drewN nq).cell? ⟨w.heap.size + 1, 0, none⟩ = some (.int .i64 (k : Int)) := ⟨hHeld.1, hHeld.2⟩
          refine ⟨_, rfl, hKs, ?_⟩
          replace hHeld := hKs
          try simp only [Act.put, List.setIfInBounds_toArray, List.set_cons_zero, List.set_cons_succ]
          refine take_op (i := 6) (d := 126) (OP := Op.unOp UnOp.not 4 (Operand.tmp 125)) (T := 4) (v := ?vq130x) rfl rfl rfl rfl (by kernel_rfl) (by kernel_rfl) (by kernel_rfl) (fun _ _ _ h => h) (by rfl) ?hq130x hHeld ?rq130x
          case hq130x => (intro w' hSw; (try dsimp only at hSw); go_simp <;> with_reducible rfl)
          try simp only [Act.put, List.setIfInBounds_toArray, List.set_cons_zero, List.set_cons_succ]
          refine take_op (i := 7) (d := 127) (OP := Op.pick (Operand.tmp 122) (Operand.const (Value.bool true)) (Operand.tmp 126)) (T := 4) (v := ?vq131x) rfl rfl rfl rfl (by kernel_rfl) (by kernel_rfl) (by kernel_rfl) (fun _ _ _ h => h) (by rfl) ?hq131x hHeld ?rq131x
          case hq131x => (intro w' hSw; (try dsimp only at hSw); go_simp <;> with_reducible rfl)
          try simp only [Act.put, List.setIfInBounds_toArray, List.set_cons_zero, List.set_cons_succ]
          refine take_op (i := 8) (d := 128) (OP := Op.move (Operand.tmp 127)) (T := 4) (v := ?vq132x) rfl rfl rfl rfl (by kernel_rfl) (by kernel_rfl) (by kernel_rfl) (fun _ _ _ h => h) (by rfl) ?hq132x hHeld ?rq132x
          case hq132x => (intro w' hSw; (try dsimp only at hSw); go_simp <;> with_reducible rfl)
          try simp only [Act.put, List.setIfInBounds_toArray, List.set_cons_zero, List.set_cons_succ]
          refine take_op (i := 9) (d := 129) (OP := Op.move (Operand.tmp 18)) (T := 28) (v := ?vq133x) rfl rfl rfl rfl (by kernel_rfl) (by kernel_rfl) (by kernel_rfl) (fun _ _ _ h => h) (by rfl) ?hq133x hHeld ?rq133x
          case hq133x => (intro w' hSw; (try dsimp only at hSw); go_simp <;> with_reducible rfl)
          try simp only [Act.put, List.setIfInBounds_toArray, List.set_cons_zero, List.set_cons_succ]
          refine take_op (i := 11) (d := 131) (OP := Op.load 3 (Operand.tmp 6)) (T := 3) (v := ?vq134x) rfl rfl rfl rfl (by kernel_rfl) (by kernel_rfl) (by kernel_rfl) (fun _ _ _ h => h) (by rfl) ?hq134x hHeld ?rq134x
          case hq134x => (intro w' hSw; (try dsimp only at hSw); go_simp <;> with_reducible rfl)
          try simp only [Act.put, List.setIfInBounds_toArray, List.set_cons_zero, List.set_cons_succ]
          refine call_op (i := 10) (d := 130) (OP := Op.call { callee := Callee.value (Operand.func 19), args := #[Operand.tmp 129], argTypes := #[28] }) (T := 3) (f := 19) (args := #[.pointer (some ⟨C, 0, none⟩)]) rfl rfl rfl rfl (by kernel_rfl) (by rfl) (by go_simp) ?_
          refine ((hwrt nq)).mono ?_
          rintro e W5 ⟨rfl, rfl⟩
          refine ⟨_, rfl, hKs, ?_⟩
          replace hHeld := hKs
          try simp only [Act.put, List.setIfInBounds_toArray, List.set_cons_zero, List.set_cons_succ]
          refine take_op (i := 12) (d := 132) (OP := Op.binOp BinOp.neq 3 (Operand.tmp 130) (Operand.tmp 131) 3) (T := 4) (v := ?vq136x) rfl rfl rfl rfl (by kernel_rfl) (by kernel_rfl) (by kernel_rfl) (fun _ _ _ h => h) (by rfl) ?hq136x hHeld ?rq136x
          case hq136x => (intro w' hSw; (try dsimp only at hSw); go_simp <;> with_reducible rfl)
          try simp only [Act.put, List.setIfInBounds_toArray, List.set_cons_zero, List.set_cons_succ]
          refine take_op (i := 13) (d := 133) (OP := Op.pick (Operand.tmp 128) (Operand.const (Value.bool true)) (Operand.tmp 132)) (T := 4) (v := ?vq137x) rfl rfl rfl rfl (by kernel_rfl) (by kernel_rfl) (by kernel_rfl) (fun _ _ _ h => h) (by rfl) ?hq137x hHeld ?rq137x
          case hq137x => (intro w' hSw; (try dsimp only at hSw); go_simp <;> with_reducible rfl)
          try simp only [Act.put, List.setIfInBounds_toArray, List.set_cons_zero, List.set_cons_succ]
          refine wpAnyH_done (by kernel_rfl) ?_ _
          have hb4 : Below W2.heap.size W2 (W3.drewN (1 + nq)) := b3.trans ((below_drew W3 (1 + nq)).mono b3.size)
          have hrf4 := HRF.out.below hb4
          have hrf5 := HRF.out.below b3
          obtain ⟨gx0, gx1, gx2, _⟩ := blk3 hrf5.xb
          have gAb := hrf5.ab
          have gKb : W3.cell? ⟨w7.heap.size + 1, 0, none⟩ = some (.int .i64 (k : Int)) := by rw [cell_of_row _ _ 0 _ 3 (0, 0) hrf5.kb]; rfl
          have HR4 := hide hrf4
          clear hbc hrf4 hrf5 hsame hwrt hPC
          rcases HKD.out with hk1 | hk1 | hk1
          · rw [hk1] at gx0
            gi_wp2_with (refine ⟨trivial, ?_⟩; gi_at_call 13; refine (CallsIn.inRound _ (callsIn_wide.2 (hl13 _ HR4.out hk1))).mono ?_; rintro e Wd ⟨⟨v, rfl⟩, hn⟩; obtain ⟨f1, f2, f3⟩ := hend _ Wd HR4.out hb4 hn)
            exact f3 _ rfl
          · rw [hk1] at gx0
            gi_wp2_with (refine ⟨trivial, ?_⟩; gi_at_call 14; refine (CallsIn.inRound _ (callsIn_wide.2 (hl14 _ HR4.out hk1))).mono ?_; rintro e Wd ⟨⟨v, rfl⟩, hn⟩; obtain ⟨f1, f2, f3⟩ := hend _ Wd HR4.out hb4 hn)
            exact f3 _ rfl
          · rw [hk1] at gx0
            gi_wp2_with (refine ⟨trivial, ?_⟩; gi_at_call 15; refine (CallsIn.inRound _ (callsIn_wide.2 (hl15 _ HR4.out hk1))).mono ?_; rintro e Wd ⟨⟨v, rfl⟩, hn⟩; obtain ⟨f1, f2, f3⟩ := hend _ Wd HR4.out hb4 hn)
            exact f3 _ rfl
        · have hkb : ((k : Int) == n) = false := by simpa using hkn
          rcases HKD.out with hk1 | hk1 | hk1
          · rw [hk1] at gx0
            gi_wp2_with (refine ⟨trivial, ?_⟩; gi_at_call 13; refine (CallsIn.inRound _ (callsIn_wide.2 (hl13 W2 HRF.out hk1))).mono ?_; rintro e Wd ⟨⟨v, rfl⟩, hn⟩; obtain ⟨f1, f2, f3⟩ := hend W2 Wd HRF.out hb0 hn)
            exact f3 _ rfl
          · rw [hk1] at gx0
            gi_wp2_with (refine ⟨trivial, ?_⟩; gi_at_call 14; refine (CallsIn.inRound _ (callsIn_wide.2 (hl14 W2 HRF.out hk1))).mono ?_; rintro e Wd ⟨⟨v, rfl⟩, hn⟩; obtain ⟨f1, f2, f3⟩ := hend W2 Wd HRF.out hb0 hn)
            exact f3 _ rfl
          · rw [hk1] at gx0
            gi_wp2_with (refine ⟨trivial, ?_⟩; gi_at_call 15; refine (CallsIn.inRound _ (callsIn_wide.2 (hl15 W2 HRF.out hk1))).mono ?_; rintro e Wd ⟨⟨v, rfl⟩, hn⟩; obtain ⟨f1, f2, f3⟩ := hend W2 Wd HRF.out hb0 hn)
            exact f3 _ rfl
      case hdone =>
        intro W hi hls hK
        rw [hs8] at hls hK ⊢
        obtain ⟨FA, GA, p1, p2, p3, p4, p5, p6⟩ := hi
        rw [List.take_length] at p1
        have hPDW := hPD5.out.below p6
        have hDW : W.drew.cell? ⟨w1.heap.size, 0, none⟩ = some (.pointer (some ⟨R, 0, none⟩)) := (p6.cell (World.block_lt_of_cell? w5 _ hD5)).trans hD5
        have hDW' : W.cell? ⟨w1.heap.size, 0, none⟩ = some (.pointer (some ⟨R, 0, none⟩)) := hDW
        have hnW : W.cell? ⟨w.heap.size + 1, 0, none⟩ = some (.int .i64 n) := (p6.cell (World.block_lt_of_cell? w5 _ Hn5.out)).trans Hn5.out
        have hkW : W.cell? ⟨w7.heap.size + 1, 0, none⟩ = some (.int .i64 (log.length : Int)) := by rw [cell_of_row _ _ 0 _ 3 (0, 0) p5]; rfl
        have bd : Below W.heap.size W W.drew := (Below.refl _ W).drew
        have hwr9 := writes_any (hPDW.below bd)
        have hct9 := cut_yes (hPDW.below bd) log.length (Nat.le_refl _) (by omega)
        rw [List.take_length] at hct9
        have HPA := hide p1
        have HPD := hide hPDW
        have HB5' := hide (HB5.out.trans (p6.mono (by have := HB5.out.size; omega)))
        clear p1 p2 p3 p5 hPDW hI0 hlog5 HE
        go_wp2
        refine wp_region_held_drew (S := (fun w' => w'.cell? ⟨w1.heap.size, 0, none⟩ = some (.pointer (some ⟨R, 0, none⟩)))) (by kernel_rfl) (by exact hDW) (fun hHeld => ?_)
        try dsimp only at hHeld
        refine take_op (i := 0) (d := 157) (OP := Op.load 28 (Operand.tmp 9)) (T := 28) (v := ?vq20x) rfl rfl rfl rfl (by kernel_rfl) (by kernel_rfl) (by kernel_rfl) (fun _ _ _ h => h) (by rfl) ?hq20x hHeld ?rq20x
        case hq20x => (intro w' hSw; (try dsimp only at hSw); go_simp <;> with_reducible rfl)
        try simp only [Act.put, List.setIfInBounds_toArray, List.set_cons_zero, List.set_cons_succ]
        refine take_op (i := 1) (d := 158) (OP := Op.load 28 (Operand.tmp 9)) (T := 28) (v := ?vq21x) rfl rfl rfl rfl (by kernel_rfl) (by kernel_rfl) (by kernel_rfl) (fun _ _ _ h => h) (by rfl) ?hq21x hHeld ?rq21x
        case hq21x => (intro w' hSw; (try dsimp only at hSw); go_simp <;> with_reducible rfl)
        try simp only [Act.put, List.setIfInBounds_toArray, List.set_cons_zero, List.set_cons_succ]
        refine call_op (i := 2) (d := 159) (OP := Op.call { callee := Callee.value (Operand.func 19), args := #[Operand.tmp 158], argTypes := #[28] }) (T := 3) (f := 19) (args := #[.pointer (some ⟨R, 0, none⟩)]) rfl rfl rfl rfl (by kernel_rfl) (by rfl) (by go_simp) ?_
        refine (hwr9).mono ?_
        rintro e W9 ⟨rfl, rfl⟩
        refine ⟨_, rfl, hHeld, ?_⟩
        replace hHeld := hHeld
        try simp only [Act.put, List.setIfInBounds_toArray, List.set_cons_zero, List.set_cons_succ]
        refine call_op (i := 3) (d := 160) (OP := Op.call { callee := Callee.value (Operand.func 17), args := #[Operand.tmp 157, Operand.tmp 159], argTypes := #[28, 3] }) (T := 30) (f := 17) (args := #[.pointer (some ⟨R, 0, none⟩), .int .i64 (log.length : Int)]) rfl rfl rfl rfl (by kernel_rfl) (by rfl) (by go_simp) ?_
        refine (hct9).mono ?_
        rintro e WX ⟨C, Fc, Gc, rfl, hPC, _, _, bX⟩
        have hKx : WX.cell? ⟨w1.heap.size, 0, none⟩ = some (.pointer (some ⟨R, 0, none⟩)) := (bX.cell (World.block_lt_of_cell? _ _ hHeld)).trans hHeld
        refine ⟨_, rfl, hKx, ?_⟩
        replace hHeld := hKx
        try simp only [Act.put, List.setIfInBounds_toArray, List.set_cons_zero, List.set_cons_succ]
        refine take_op (i := 4) (d := 156) (OP := Op.move (Operand.tmp 160)) (T := 30) (v := ?vq24x) rfl rfl rfl rfl (by kernel_rfl) (by kernel_rfl) (by kernel_rfl) (fun _ _ _ h => h) (by rfl) ?hq24x hHeld ?rq24x
        case hq24x => (intro w' hSw; (try dsimp only at hSw); go_simp <;> with_reducible rfl)
        try simp only [Act.put, List.setIfInBounds_toArray, List.set_cons_zero, List.set_cons_succ]
        refine take_op (i := 5) (d := 161) (OP := Op.extract (Operand.tmp 156) 0) (T := 28) (v := ?vq25x) rfl rfl rfl rfl (by kernel_rfl) (by kernel_rfl) (by kernel_rfl) (fun _ _ _ h => h) (by rfl) ?hq25x hHeld ?rq25x
        case hq25x => (intro w' hSw; (try dsimp only at hSw); go_simp <;> with_reducible rfl)
        try simp only [Act.put, List.setIfInBounds_toArray, List.set_cons_zero, List.set_cons_succ]
        refine take_op (i := 6) (d := 162) (OP := Op.extract (Operand.tmp 156) 1) (T := 29) (v := ?vq26x) rfl rfl rfl rfl (by kernel_rfl) (by kernel_rfl) (by kernel_rfl) (fun _ _ _ h => h) (by rfl) ?hq26x hHeld ?rq26x
        case hq26x => (intro w' hSw; (try dsimp only at hSw); go_simp <;> with_reducible rfl)
        try simp only [Act.put, List.setIfInBounds_toArray, List.set_cons_zero, List.set_cons_succ]
        refine take_op (i := 7) (d := 20) (OP := Op.assign (Operand.tmp 161)) (T := 28) (v := ?vq27x) rfl rfl rfl rfl (by kernel_rfl) (by kernel_rfl) (by kernel_rfl) (fun _ _ _ h => h) (by rfl) ?hq27x hHeld ?rq27x
        case hq27x => (intro w' hSw; (try dsimp only at hSw); go_simp <;> with_reducible rfl)
        try simp only [Act.put, List.setIfInBounds_toArray, List.set_cons_zero, List.set_cons_succ]
        refine take_op (i := 8) (d := 21) (OP := Op.assign (Operand.tmp 162)) (T := 29) (v := ?vq28x) rfl rfl rfl rfl (by kernel_rfl) (by kernel_rfl) (by kernel_rfl) (fun _ _ _ h => h) (by rfl) ?hq28x hHeld ?rq28x
        case hq28x => (intro w' hSw; (try dsimp only at hSw); go_simp <;> with_reducible rfl)
        try simp only [Act.put, List.setIfInBounds_toArray, List.set_cons_zero, List.set_cons_succ]
        refine wpAnyH_done (by kernel_rfl) ?_ _
        have bX' : Below W.heap.size W WX := ⟨bX.os, bX.tape, bX.output, bX.size, bX.block⟩
        have bXd : Below WX.heap.size WX WX.drew := (Below.refl _ WX).drew
        have hA0 := (HPA.out.below bX').below bXd
        have hR0 := (HPD.out.below bX').below bXd
        have hC0 := hPC.below bXd
        have d1 : WX.cell? ⟨w7.heap.size, 0, none⟩ = some (.pointer (some ⟨A, 0, none⟩)) := (bX'.cell (World.block_lt_of_cell? W _ p4)).trans p4
        have d2 : WX.cell? ⟨w1.heap.size, 0, none⟩ = some (.pointer (some ⟨R, 0, none⟩)) := hKx
        have d3 : WX.cell? ⟨w7.heap.size + 1, 0, none⟩ = some (.int .i64 (log.length : Int)) := (bX'.cell (World.block_lt_of_cell? W _ hkW)).trans hkW
        have d4 : WX.cell? ⟨w.heap.size + 1, 0, none⟩ = some (.int .i64 n) := (bX'.cell (World.block_lt_of_cell? W _ hnW)).trans hnW
        have hS34 : WX.drew.cell? ⟨w7.heap.size, 0, none⟩ = some (.pointer (some ⟨A, 0, none⟩)) ∧ WX.drew.cell? ⟨w1.heap.size, 0, none⟩ = some (.pointer (some ⟨R, 0, none⟩)) ∧ WX.drew.cell? ⟨w7.heap.size + 1, 0, none⟩ = some (.int .i64 (log.length : Int)) := ⟨d1, d2, d3⟩
        clear hwr9 hct9
        go_wp2
        refine wp_region_held_drew (S := (fun w' => w'.cell? ⟨w7.heap.size, 0, none⟩ = some (.pointer (some ⟨A, 0, none⟩)) ∧ w'.cell? ⟨w1.heap.size, 0, none⟩ = some (.pointer (some ⟨R, 0, none⟩)) ∧ w'.cell? ⟨w7.heap.size + 1, 0, none⟩ = some (.int .i64 (log.length : Int)))) (by kernel_rfl) (by exact hS34) (fun hHeld => ?_)
        try dsimp only at hHeld
        refine take_op (i := 0) (d := 163) (OP := Op.move (Operand.tmp 21)) (T := 29) (v := ?vq29x) rfl rfl rfl rfl (by kernel_rfl) (by kernel_rfl) (by kernel_rfl) (fun _ _ _ h => h) (by rfl) ?hq29x hHeld ?rq29x
        case hq29x => (intro w' hSw; (try dsimp only at hSw); go_simp <;> with_reducible rfl)
        try simp only [Act.put, List.setIfInBounds_toArray, List.set_cons_zero, List.set_cons_succ]
        refine take_op (i := 1) (d := 164) (OP := Op.binOp BinOp.neq 29 (Operand.tmp 163) (Operand.const (Value.int IntKind.i64 0)) 29) (T := 4) (v := ?vq30x) rfl rfl rfl rfl (by kernel_rfl) (by kernel_rfl) (by kernel_rfl) (fun _ _ _ h => h) (by rfl) ?hq30x hHeld ?rq30x
        case hq30x => (intro w' hSw; (try dsimp only at hSw); go_simp <;> with_reducible rfl)
        try simp only [Act.put, List.setIfInBounds_toArray, List.set_cons_zero, List.set_cons_succ]
        refine take_op (i := 2) (d := 165) (OP := Op.move (Operand.tmp 164)) (T := 4) (v := ?vq31x) rfl rfl rfl rfl (by kernel_rfl) (by kernel_rfl) (by kernel_rfl) (fun _ _ _ h => h) (by rfl) ?hq31x hHeld ?rq31x
        case hq31x => (intro w' hSw; (try dsimp only at hSw); go_simp <;> with_reducible rfl)
        try simp only [Act.put, List.setIfInBounds_toArray, List.set_cons_zero, List.set_cons_succ]
        refine take_op (i := 3) (d := 166) (OP := Op.load 28 (Operand.tmp 13)) (T := 28) (v := ?vq32x) rfl rfl rfl rfl (by kernel_rfl) (by kernel_rfl) (by kernel_rfl) (fun _ _ _ h => h) (by rfl) ?hq32x hHeld ?rq32x
        case hq32x => (intro w' hSw; (try dsimp only at hSw); go_simp <;> with_reducible rfl)
        try simp only [Act.put, List.setIfInBounds_toArray, List.set_cons_zero, List.set_cons_succ]
        refine take_op (i := 4) (d := 167) (OP := Op.load 28 (Operand.tmp 9)) (T := 28) (v := ?vq33x) rfl rfl rfl rfl (by kernel_rfl) (by kernel_rfl) (by kernel_rfl) (fun _ _ _ h => h) (by rfl) ?hq33x hHeld ?rq33x
        case hq33x => (intro w' hSw; (try dsimp only at hSw); go_simp <;> with_reducible rfl)
        try simp only [Act.put, List.setIfInBounds_toArray, List.set_cons_zero, List.set_cons_succ]
        refine call_op (i := 5) (d := 168) (OP := Op.call { callee := Callee.value (Operand.func 18), args := #[Operand.tmp 166, Operand.tmp 167], argTypes := #[28, 28] }) (T := 4) (f := 18) (args := #[.pointer (some ⟨A, 0, none⟩), .pointer (some ⟨R, 0, none⟩)]) rfl rfl rfl rfl (by kernel_rfl) (by rfl) (by go_simp) ?_
        refine (same_yes hA0 hR0 rfl).mono ?_
        rintro e V1 ⟨rfl, n1, rfl⟩
        have hK1 : (WX.drew.drewN n1).cell? ⟨w7.heap.size, 0, none⟩ = some (.pointer (some ⟨A, 0, none⟩)) ∧ (WX.drew.drewN n1).cell? ⟨w1.heap.size, 0, none⟩ = some (.pointer (some ⟨R, 0, none⟩)) ∧ (WX.drew.drewN n1).cell? ⟨w7.heap.size + 1, 0, none⟩ = some (.int .i64 (log.length : Int)) := hHeld
        refine ⟨_, rfl, hK1, ?_⟩
        replace hHeld := hK1
        try simp only [Act.put, List.setIfInBounds_toArray, List.set_cons_zero, List.set_cons_succ]
        refine take_op (i := 6) (d := 169) (OP := Op.unOp UnOp.not 4 (Operand.tmp 168)) (T := 4) (v := ?vq35x) rfl rfl rfl rfl (by kernel_rfl) (by kernel_rfl) (by kernel_rfl) (fun _ _ _ h => h) (by rfl) ?hq35x hHeld ?rq35x
        case hq35x => (intro w' hSw; (try dsimp only at hSw); go_simp <;> with_reducible rfl)
        try simp only [Act.put, List.setIfInBounds_toArray, List.set_cons_zero, List.set_cons_succ]
        refine take_op (i := 7) (d := 170) (OP := Op.pick (Operand.tmp 165) (Operand.const (Value.bool true)) (Operand.tmp 169)) (T := 4) (v := ?vq36x) rfl rfl rfl rfl (by kernel_rfl) (by kernel_rfl) (by kernel_rfl) (fun _ _ _ h => h) (by rfl) ?hq36x hHeld ?rq36x
        case hq36x => (intro w' hSw; (try dsimp only at hSw); go_simp <;> with_reducible rfl)
        try simp only [Act.put, List.setIfInBounds_toArray, List.set_cons_zero, List.set_cons_succ]
        refine take_op (i := 8) (d := 171) (OP := Op.move (Operand.tmp 170)) (T := 4) (v := ?vq37x) rfl rfl rfl rfl (by kernel_rfl) (by kernel_rfl) (by kernel_rfl) (fun _ _ _ h => h) (by rfl) ?hq37x hHeld ?rq37x
        case hq37x => (intro w' hSw; (try dsimp only at hSw); go_simp <;> with_reducible rfl)
        try simp only [Act.put, List.setIfInBounds_toArray, List.set_cons_zero, List.set_cons_succ]
        refine take_op (i := 9) (d := 172) (OP := Op.move (Operand.tmp 20)) (T := 28) (v := ?vq38x) rfl rfl rfl rfl (by kernel_rfl) (by kernel_rfl) (by kernel_rfl) (fun _ _ _ h => h) (by rfl) ?hq38x hHeld ?rq38x
        case hq38x => (intro w' hSw; (try dsimp only at hSw); go_simp <;> with_reducible rfl)
        try simp only [Act.put, List.setIfInBounds_toArray, List.set_cons_zero, List.set_cons_succ]
        refine take_op (i := 10) (d := 173) (OP := Op.load 28 (Operand.tmp 9)) (T := 28) (v := ?vq39x) rfl rfl rfl rfl (by kernel_rfl) (by kernel_rfl) (by kernel_rfl) (fun _ _ _ h => h) (by rfl) ?hq39x hHeld ?rq39x
        case hq39x => (intro w' hSw; (try dsimp only at hSw); go_simp <;> with_reducible rfl)
        try simp only [Act.put, List.setIfInBounds_toArray, List.set_cons_zero, List.set_cons_succ]
        refine call_op (i := 11) (d := 174) (OP := Op.call { callee := Callee.value (Operand.func 18), args := #[Operand.tmp 172, Operand.tmp 173], argTypes := #[28, 28] }) (T := 4) (f := 18) (args := #[.pointer (some ⟨C, 0, none⟩), .pointer (some ⟨R, 0, none⟩)]) rfl rfl rfl rfl (by kernel_rfl) (by rfl) (by go_simp) ?_
        refine (same_yes (hC0.drewN n1) (hR0.drewN n1) rfl).mono ?_
        rintro e V2 ⟨rfl, n2, rfl⟩
        have hK2 : ((WX.drew.drewN n1).drewN n2).cell? ⟨w7.heap.size, 0, none⟩ = some (.pointer (some ⟨A, 0, none⟩)) ∧ ((WX.drew.drewN n1).drewN n2).cell? ⟨w1.heap.size, 0, none⟩ = some (.pointer (some ⟨R, 0, none⟩)) ∧ ((WX.drew.drewN n1).drewN n2).cell? ⟨w7.heap.size + 1, 0, none⟩ = some (.int .i64 (log.length : Int)) := hHeld
        refine ⟨_, rfl, hK2, ?_⟩
        replace hHeld := hK2
        try simp only [Act.put, List.setIfInBounds_toArray, List.set_cons_zero, List.set_cons_succ]
        refine take_op (i := 12) (d := 175) (OP := Op.unOp UnOp.not 4 (Operand.tmp 174)) (T := 4) (v := ?vq41x) rfl rfl rfl rfl (by kernel_rfl) (by kernel_rfl) (by kernel_rfl) (fun _ _ _ h => h) (by rfl) ?hq41x hHeld ?rq41x
        case hq41x => (intro w' hSw; (try dsimp only at hSw); go_simp <;> with_reducible rfl)
        try simp only [Act.put, List.setIfInBounds_toArray, List.set_cons_zero, List.set_cons_succ]
        refine take_op (i := 13) (d := 176) (OP := Op.pick (Operand.tmp 171) (Operand.const (Value.bool true)) (Operand.tmp 175)) (T := 4) (v := ?vq42x) rfl rfl rfl rfl (by kernel_rfl) (by kernel_rfl) (by kernel_rfl) (fun _ _ _ h => h) (by rfl) ?hq42x hHeld ?rq42x
        case hq42x => (intro w' hSw; (try dsimp only at hSw); go_simp <;> with_reducible rfl)
        try simp only [Act.put, List.setIfInBounds_toArray, List.set_cons_zero, List.set_cons_succ]
        refine take_op (i := 14) (d := 177) (OP := Op.move (Operand.tmp 176)) (T := 4) (v := ?vq43x) rfl rfl rfl rfl (by kernel_rfl) (by kernel_rfl) (by kernel_rfl) (fun _ _ _ h => h) (by rfl) ?hq43x hHeld ?rq43x
        case hq43x => (intro w' hSw; (try dsimp only at hSw); go_simp <;> with_reducible rfl)
        try simp only [Act.put, List.setIfInBounds_toArray, List.set_cons_zero, List.set_cons_succ]
        refine take_op (i := 15) (d := 178) (OP := Op.load 3 (Operand.tmp 15)) (T := 3) (v := ?vq44x) rfl rfl rfl rfl (by kernel_rfl) (by kernel_rfl) (by kernel_rfl) (fun _ _ _ h => h) (by rfl) ?hq44x hHeld ?rq44x
        case hq44x => (intro w' hSw; (try dsimp only at hSw); go_simp <;> with_reducible rfl)
        try simp only [Act.put, List.setIfInBounds_toArray, List.set_cons_zero, List.set_cons_succ]
        refine take_op (i := 16) (d := 179) (OP := Op.load 28 (Operand.tmp 9)) (T := 28) (v := ?vq45x) rfl rfl rfl rfl (by kernel_rfl) (by kernel_rfl) (by kernel_rfl) (fun _ _ _ h => h) (by rfl) ?hq45x hHeld ?rq45x
        case hq45x => (intro w' hSw; (try dsimp only at hSw); go_simp <;> with_reducible rfl)
        try simp only [Act.put, List.setIfInBounds_toArray, List.set_cons_zero, List.set_cons_succ]
        refine call_op (i := 17) (d := 180) (OP := Op.call { callee := Callee.value (Operand.func 19), args := #[Operand.tmp 179], argTypes := #[28] }) (T := 3) (f := 19) (args := #[.pointer (some ⟨R, 0, none⟩)]) rfl rfl rfl rfl (by kernel_rfl) (by rfl) (by go_simp) ?_
        refine (writes_any ((hR0.drewN n1).drewN n2)).mono ?_
        rintro e V3 ⟨rfl, rfl⟩
        refine ⟨_, rfl, hHeld, ?_⟩
        replace hHeld := hHeld
        try simp only [Act.put, List.setIfInBounds_toArray, List.set_cons_zero, List.set_cons_succ]
        refine take_op (i := 18) (d := 181) (OP := Op.binOp BinOp.neq 3 (Operand.tmp 178) (Operand.tmp 180) 3) (T := 4) (v := ?vq47x) rfl rfl rfl rfl (by kernel_rfl) (by kernel_rfl) (by kernel_rfl) (fun _ _ _ h => h) (by rfl) ?hq47x hHeld ?rq47x
        case hq47x => (intro w' hSw; (try dsimp only at hSw); go_simp <;> with_reducible rfl)
        try simp only [Act.put, List.setIfInBounds_toArray, List.set_cons_zero, List.set_cons_succ]
        refine take_op (i := 19) (d := 182) (OP := Op.pick (Operand.tmp 177) (Operand.const (Value.bool true)) (Operand.tmp 181)) (T := 4) (v := ?vq48x) rfl rfl rfl rfl (by kernel_rfl) (by kernel_rfl) (by kernel_rfl) (fun _ _ _ h => h) (by rfl) ?hq48x hHeld ?rq48x
        case hq48x => (intro w' hSw; (try dsimp only at hSw); go_simp <;> with_reducible rfl)
        try simp only [Act.put, List.setIfInBounds_toArray, List.set_cons_zero, List.set_cons_succ]
        refine wpAnyH_done (by kernel_rfl) ?_ _
        clear hA0 hC0
        have hRq : ∀ q, PD F G (WX.drewN q) R cap ⟨l0, l1, u⟩ log := fun q => (HPD.out.below bX').drewN q
        have bWX : ∀ q, Below W.heap.size W (WX.drewN q) := fun q => bX'.trans ((below_drew WX q).mono bX'.size)
        have hbS : ∀ q, W.heap.size ≤ (WX.drewN q).heap.size := fun q => (bWX q).size
        have HWW := hide (hbw5.out.trans (p6.mono hbw5.out.size))
        have HBW := hide HB5'.out
        have hsz0 : w.heap.size + 3 ≤ W.heap.size := by have := HBW.out.size; omega
        clear hPC hR0 hKx hK1 hK2 hHeld hS34 HB5' HB5 HB hPD5
        by_cases hr : 0 ≤ n ∧ n ≤ (log.length : Int)
        · obtain ⟨hge, hle⟩ := hr
          obtain ⟨k0, hk0⟩ : ∃ k0 : Nat, n = (k0 : Int) := ⟨n.toNat, by omega⟩
          have hcutn : ∀ q, Calls Try.prog 17 #[.pointer (some ⟨R, 0, none⟩), .int .i64 n] (WX.drewN q) fun e w' => ∃ C Fc Gc, e = .returned (.tuple #[.pointer (some ⟨C, 0, none⟩), .int .i64 0]) ∧ PD Fc Gc w' C cap ⟨l0, l1, u⟩ (log.take k0) ∧ (∀ k, Fc k → (WX.drewN q).heap.size ≤ k) ∧ Grown G Gc (WX.drewN q) ∧ Below (WX.drewN q).heap.size (WX.drewN q) w' := fun q => by
            rw [hk0]; exact cut_yes (hRq q) k0 (by omega) (by omega)
          have hdn : decide (0 ≤ n) = true := by simpa using hge
          have hdl : decide (n ≤ (log.length : Int)) = true := by simpa using hle
          by_cases hm0 : 0 ≤ m
          · have hdm : decide (0 ≤ m) = true := by simpa using hm0
            by_cases hm1 : m ≤ n
            · have hdm1 : decide (m ≤ n) = true := by simpa using hm1
              obtain ⟨m0, hm2⟩ : ∃ m0 : Nat, m = (m0 : Int) := ⟨m.toNat, by omega⟩
              have hlk0 : (log.take k0).length = k0 := by simp; omega
              have hcutC1 : ∀ {C1 : Nat} {Fc1 Gc1 : Nat → Prop} {Y : World}, PD Fc1 Gc1 Y C1 cap ⟨l0, l1, u⟩ (log.take k0) → Calls Try.prog 17 #[.pointer (some ⟨C1, 0, none⟩), .int .i64 m] Y fun e w' => ∃ C Fc Gc, e = .returned (.tuple #[.pointer (some ⟨C, 0, none⟩), .int .i64 0]) ∧ PD Fc Gc w' C cap ⟨l0, l1, u⟩ ((log.take k0).take m0) ∧ (∀ k, Fc k → Y.heap.size ≤ k) ∧ Grown Gc1 Gc Y ∧ Below Y.heap.size Y w' := fun h => by
                rw [hm2]; exact cut_yes h m0 (by omega) (by omega)
              have hcutR : ∀ {Y : World}, PD F G Y R cap ⟨l0, l1, u⟩ log → Calls Try.prog 17 #[.pointer (some ⟨R, 0, none⟩), .int .i64 m] Y fun e w' => ∃ C Fc Gc, e = .returned (.tuple #[.pointer (some ⟨C, 0, none⟩), .int .i64 0]) ∧ PD Fc Gc w' C cap ⟨l0, l1, u⟩ (log.take m0) ∧ (∀ k, Fc k → Y.heap.size ≤ k) ∧ Grown G Gc Y ∧ Below Y.heap.size Y w' := fun h => by
                rw [hm2]; exact cut_yes h m0 (by omega) (by omega)
              have hpl : plays ⟨l0, l1, u⟩ ((log.take k0).take m0) = plays ⟨l0, l1, u⟩ (log.take m0) := by rw [List.take_take, Nat.min_eq_left (by omega)]
              clear hge hle hm0 hm1 hk0 hm2 hlk0
              have t1 : True := trivial
              have t2 : True := trivial
              go_wp2_with (first
                | (go_at_call 17; clear t1; refine (hcutn _).mono ?_; rintro e Y1 ⟨C1, Fc1, Gc1, rfl, hPC1, _, _, bY1⟩; have BY1 := hide ((bWX _).trans (bY1.mono (hbS _))); have hPR1 := HPD.out.below BY1.out; have hnY1 : Y1.cell? ⟨w.heap.size + 1, 0, none⟩ = some (.int .i64 n) := (BY1.out.cell (World.block_lt_of_cell? W _ hnW)).trans hnW; have hDY1 : Y1.cell? ⟨w1.heap.size, 0, none⟩ = some (.pointer (some ⟨R, 0, none⟩)) := (BY1.out.cell (World.block_lt_of_cell? W _ hDW')).trans hDW')
                | (go_at_call 17; clear t2; refine (hcutC1 hPC1).mono ?_; rintro e Y2 ⟨C2, Fc2, Gc2, rfl, hPC2, _, _, bY2⟩; have BY2 := hide (BY1.out.trans (bY2.mono BY1.out.size)); have hDY2 : Y2.cell? ⟨w1.heap.size, 0, none⟩ = some (.pointer (some ⟨R, 0, none⟩)) := (BY2.out.cell (World.block_lt_of_cell? W _ hDW')).trans hDW')
                | (go_at_call 17; refine (hcutR (HPD.out.below BY2.out)).mono ?_; rintro e Y3 ⟨C3, Fc3, Gc3, rfl, hPC3, _, _, bY3⟩; have BY3 := hide (BY2.out.trans (bY3.mono BY2.out.size)); have hPC2' := hPC2.below bY3)
                | (go_at_call 18; refine (same_yes hPC2' hPC3 hpl).mono ?_; rintro e Y4 ⟨rfl, n4, rfl⟩))
              have BY : Below W.heap.size W (Y3.drewN n4) := BY3.out.trans ((below_drew Y3 n4).mono BY3.out.size)
              have hPRY := HPD.out.below BY
              have hPRd := hPRY.below ((Below.refl _ (Y3.drewN n4)).drew)
              have hwr := writes_any hPRd
              have hS42 : (Y3.drewN n4).drew.cell? ⟨w1.heap.size, 0, none⟩ = some (.pointer (some ⟨R, 0, none⟩)) ∧ (Y3.drewN n4).drew.cell? ⟨w.heap.size + 1, 0, none⟩ = some (.int .i64 n) := ⟨(BY.cell (World.block_lt_of_cell? W _ hDW')).trans hDW', (BY.cell (World.block_lt_of_cell? W _ hnW)).trans hnW⟩
              have hres : ∀ WK, Below (Y3.drewN n4).drew.heap.size (Y3.drewN n4).drew WK → WK.heap[w.heap.size + 1 + 1]? = some (.cells #[.bool false] 4 (0, 0)) := fun WK bK => (cutW_boxes w cap u _ _ n WK (HBW.out.trans (((BY.mono (by omega)).drew).trans (bK.mono (Nat.le_trans hsz0 BY.size))))).2.2
              go_wp2
              refine wp_region_held_drew (S := (fun w' => w'.cell? ⟨w1.heap.size, 0, none⟩ = some (.pointer (some ⟨R, 0, none⟩)) ∧ w'.cell? ⟨w.heap.size + 1, 0, none⟩ = some (.int .i64 n))) (by kernel_rfl) (by exact hS42) (fun hHeld => ?_)
              try dsimp only at hHeld
              refine take_op (i := 0) (d := 224) (OP := Op.move (Operand.tmp 21)) (T := 29) (v := ?vq49x) rfl rfl rfl rfl (by kernel_rfl) (by kernel_rfl) (by kernel_rfl) (fun _ _ _ h => h) (by rfl) ?hq49x hHeld ?rq49x
              case hq49x => (intro w' hSw; (try dsimp only at hSw); go_simp <;> with_reducible rfl)
              try simp only [Act.put, List.setIfInBounds_toArray, List.set_cons_zero, List.set_cons_succ]
              refine take_op (i := 1) (d := 225) (OP := Op.binOp BinOp.eql 29 (Operand.tmp 224) (Operand.const (Value.int IntKind.i64 0)) 29) (T := 4) (v := ?vq50x) rfl rfl rfl rfl (by kernel_rfl) (by kernel_rfl) (by kernel_rfl) (fun _ _ _ h => h) (by rfl) ?hq50x hHeld ?rq50x
              case hq50x => (intro w' hSw; (try dsimp only at hSw); go_simp <;> with_reducible rfl)
              try simp only [Act.put, List.setIfInBounds_toArray, List.set_cons_zero, List.set_cons_succ]
              refine take_op (i := 2) (d := 226) (OP := Op.load 3 (Operand.tmp 6)) (T := 3) (v := ?vq51x) rfl rfl rfl rfl (by kernel_rfl) (by kernel_rfl) (by kernel_rfl) (fun _ _ _ h => h) (by rfl) ?hq51x hHeld ?rq51x
              case hq51x => (intro w' hSw; (try dsimp only at hSw); go_simp <;> with_reducible rfl)
              try simp only [Act.put, List.setIfInBounds_toArray, List.set_cons_zero, List.set_cons_succ]
              refine take_op (i := 3) (d := 227) (OP := Op.binOp BinOp.geq 3 (Operand.tmp 226) (Operand.const (Value.int IntKind.i64 0)) 3) (T := 4) (v := ?vq52x) rfl rfl rfl rfl (by kernel_rfl) (by kernel_rfl) (by kernel_rfl) (fun _ _ _ h => h) (by rfl) ?hq52x hHeld ?rq52x
              case hq52x => (intro w' hSw; (try dsimp only at hSw); go_simp <;> with_reducible rfl)
              try simp only [Act.put, List.setIfInBounds_toArray, List.set_cons_zero, List.set_cons_succ]
              refine take_op (i := 4) (d := 228) (OP := Op.move (Operand.tmp 227)) (T := 4) (v := ?vq53x) rfl rfl rfl rfl (by kernel_rfl) (by kernel_rfl) (by kernel_rfl) (fun _ _ _ h => h) (by rfl) ?hq53x hHeld ?rq53x
              case hq53x => (intro w' hSw; (try dsimp only at hSw); go_simp <;> with_reducible rfl)
              try simp only [Act.put, List.setIfInBounds_toArray, List.set_cons_zero, List.set_cons_succ]
              refine take_op (i := 5) (d := 229) (OP := Op.load 3 (Operand.tmp 6)) (T := 3) (v := ?vq54x) rfl rfl rfl rfl (by kernel_rfl) (by kernel_rfl) (by kernel_rfl) (fun _ _ _ h => h) (by rfl) ?hq54x hHeld ?rq54x
              case hq54x => (intro w' hSw; (try dsimp only at hSw); go_simp <;> with_reducible rfl)
              try simp only [Act.put, List.setIfInBounds_toArray, List.set_cons_zero, List.set_cons_succ]
              refine take_op (i := 6) (d := 230) (OP := Op.load 28 (Operand.tmp 9)) (T := 28) (v := ?vq55x) rfl rfl rfl rfl (by kernel_rfl) (by kernel_rfl) (by kernel_rfl) (fun _ _ _ h => h) (by rfl) ?hq55x hHeld ?rq55x
              case hq55x => (intro w' hSw; (try dsimp only at hSw); go_simp <;> with_reducible rfl)
              try simp only [Act.put, List.setIfInBounds_toArray, List.set_cons_zero, List.set_cons_succ]
              refine call_op (i := 7) (d := 231) (OP := Op.call { callee := Callee.value (Operand.func 19), args := #[Operand.tmp 230], argTypes := #[28] }) (T := 3) (f := 19) (args := #[.pointer (some ⟨R, 0, none⟩)]) rfl rfl rfl rfl (by kernel_rfl) (by rfl) (by go_simp) ?_
              refine (hwr).mono ?_
              rintro e WW9 ⟨rfl, rfl⟩
              refine ⟨_, rfl, hHeld, ?_⟩
              replace hHeld := hHeld
              try simp only [Act.put, List.setIfInBounds_toArray, List.set_cons_zero, List.set_cons_succ]
              refine take_op (i := 8) (d := 232) (OP := Op.binOp BinOp.leq 3 (Operand.tmp 229) (Operand.tmp 231) 3) (T := 4) (v := ?vq57x) rfl rfl rfl rfl (by kernel_rfl) (by kernel_rfl) (by kernel_rfl) (fun _ _ _ h => h) (by rfl) ?hq57x hHeld ?rq57x
              case hq57x => (intro w' hSw; (try dsimp only at hSw); go_simp <;> with_reducible rfl)
              try simp only [Act.put, List.setIfInBounds_toArray, List.set_cons_zero, List.set_cons_succ]
              refine take_op (i := 9) (d := 233) (OP := Op.pick (Operand.tmp 228) (Operand.tmp 232) (Operand.const (Value.bool false))) (T := 4) (v := ?vq58x) rfl rfl rfl rfl (by kernel_rfl) (by kernel_rfl) (by kernel_rfl) (fun _ _ _ h => h) (by rfl) ?hq58x hHeld ?rq58x
              case hq58x => (intro w' hSw; (try dsimp only at hSw); go_simp <;> with_reducible rfl)
              try simp only [Act.put, List.setIfInBounds_toArray, List.set_cons_zero, List.set_cons_succ]
              refine take_op (i := 10) (d := 234) (OP := Op.binOp BinOp.eql 4 (Operand.tmp 225) (Operand.tmp 233) 4) (T := 4) (v := ?vq59x) rfl rfl rfl rfl (by kernel_rfl) (by kernel_rfl) (by kernel_rfl) (fun _ _ _ h => h) (by rfl) ?hq59x hHeld ?rq59x
              case hq59x => (intro w' hSw; (try dsimp only at hSw); go_simp <;> with_reducible rfl)
              try simp only [Act.put, List.setIfInBounds_toArray, List.set_cons_zero, List.set_cons_succ]
              refine take_op (i := 11) (d := 235) (OP := Op.move (Operand.tmp 234)) (T := 4) (v := ?vq60x) rfl rfl rfl rfl (by kernel_rfl) (by kernel_rfl) (by kernel_rfl) (fun _ _ _ h => h) (by rfl) ?hq60x hHeld ?rq60x
              case hq60x => (intro w' hSw; (try dsimp only at hSw); go_simp <;> with_reducible rfl)
              try simp only [Act.put, List.setIfInBounds_toArray, List.set_cons_zero, List.set_cons_succ]
              refine call_op (i := 12) (d := 236) (OP := Op.call { callee := Callee.value (Operand.func 6), args := #[], argTypes := #[] }) (T := 4) (f := 6) (args := #[]) rfl rfl rfl rfl (by kernel_rfl) (by rfl) (by go_simp) ?_
              refine (known_any _).mono ?_
              rintro e WK ⟨rfl, bK⟩
              have hKk : WK.cell? ⟨w1.heap.size, 0, none⟩ = some (.pointer (some ⟨R, 0, none⟩)) ∧ WK.cell? ⟨w.heap.size + 1, 0, none⟩ = some (.int .i64 n) := ⟨(bK.cell (World.block_lt_of_cell? _ _ hHeld.1)).trans hHeld.1, (bK.cell (World.block_lt_of_cell? _ _ hHeld.2)).trans hHeld.2⟩
              have e4 := hres WK bK
              have e5 : WK.cell? ⟨w.heap.size + 1 + 1, 0, none⟩ = some (.bool false) := (by rw [cell_of_row WK _ 0 _ 4 (0, 0) e4]; rfl)
              have e6 : WK.frozen? ⟨w.heap.size + 1 + 1, 0, none⟩ = false := frozen_of_row WK _ 0 _ 4 e4
              have hKz : (WK.setCell ⟨w.heap.size + 1 + 1, 0, none⟩ (.bool true)).cell? ⟨w1.heap.size, 0, none⟩ = some (.pointer (some ⟨R, 0, none⟩)) ∧ (WK.setCell ⟨w.heap.size + 1 + 1, 0, none⟩ (.bool true)).cell? ⟨w.heap.size + 1, 0, none⟩ = some (.int .i64 n) := ⟨(grown_setCell WK ⟨w.heap.size + 1 + 1, 0, none⟩ (.bool true)).cell hKk.1 (by simp; omega), (grown_setCell WK ⟨w.heap.size + 1 + 1, 0, none⟩ (.bool true)).cell hKk.2 (by simp)⟩
              refine ⟨_, rfl, hKk, ?_⟩
              replace hHeld := hKk
              try simp only [Act.put, List.setIfInBounds_toArray, List.set_cons_zero, List.set_cons_succ]
              refine take_op (i := 13) (d := 237) (OP := Op.pick (Operand.tmp 235) (Operand.tmp 236) (Operand.const (Value.bool false))) (T := 4) (v := ?vq62x) rfl rfl rfl rfl (by kernel_rfl) (by kernel_rfl) (by kernel_rfl) (fun _ _ _ h => h) (by rfl) ?hq62x hHeld ?rq62x
              case hq62x => (intro w' hSw; (try dsimp only at hSw); go_simp <;> with_reducible rfl)
              try simp only [Act.put, List.setIfInBounds_toArray, List.set_cons_zero, List.set_cons_succ]
              refine skip_op (i := 14) (OP := Op.store 4 (Operand.tmp 8) (Operand.tmp 237)) (T := 0) (w' := (WK.setCell ⟨w.heap.size + 1 + 1, 0, none⟩ (.bool true))) rfl rfl rfl rfl (by kernel_rfl) (by rfl) (by go_simp) ⟨hKz, ?_⟩
              replace hHeld := hKz
              refine wpAnyH_done (by kernel_rfl) ?_ _
              go_wp2
              have hBK : Below W.heap.size W WK := (BY.drew).trans (bK.mono BY.size)
              have hKK : (WK.setCell ⟨w.heap.size + 1 + 1, 0, none⟩ (.bool true)).heap[w7.heap.size + 2]? = some (.deferred (some [])) := by
                rw [heap_setCell_other _ _ _ _ (by simp only; omega), hBK.block _ hls]; exact hK
              have hput := only_putObj (WK.setCell ⟨w.heap.size + 1 + 1, 0, none⟩ (.bool true)) (w7.heap.size + 2) (.deferred none)
              have hset := Only.ofGrown (grown_setCell WK ⟨w.heap.size + 1 + 1, 0, none⟩ (.bool true))
              have hcell : (WK.setCell ⟨w.heap.size + 1 + 1, 0, none⟩ (.bool true)).cell? ⟨w.heap.size + 1 + 1, 0, none⟩ = some (.bool true) := by rw [cell_of_row _ _ 0 _ 4 (0, 0) (heap_setCell_same _ _ _ _ 4 _ e4)]; rfl
              have q1 : Below w.heap.size w WK := HWW.out.trans (hBK.mono (by omega))
              exact leave_mark (fn := Try.f4) hKK (leave_cell (w.heap.size + 1 + 1) (x := true) rfl rfl (hput.cell hcell (by simp only; omega)) ⟨rfl, Below.only (Below.only q1 hset q1.size (by intro j e; cases e; simp only; omega)) hput (by have := q1.size; simpa using this) (by intro j e; omega)⟩)
            · have hdm1 : decide (m ≤ n) = false := by simpa using hm1
              clear hge hle hm0 hm1 hk0
              have t1 : True := trivial
              go_wp2_with (first
                | (go_at_call 17; clear t1; refine (hcutn _).mono ?_; rintro e Y1 ⟨C1, Fc1, Gc1, rfl, hPC1, _, _, bY1⟩; have BY1 := hide ((bWX _).trans (bY1.mono (hbS _))); have hPR1 := HPD.out.below BY1.out; have hnY1 : Y1.cell? ⟨w.heap.size + 1, 0, none⟩ = some (.int .i64 n) := (BY1.out.cell (World.block_lt_of_cell? W _ hnW)).trans hnW; have hDY1 : Y1.cell? ⟨w1.heap.size, 0, none⟩ = some (.pointer (some ⟨R, 0, none⟩)) := (BY1.out.cell (World.block_lt_of_cell? W _ hDW')).trans hDW'))
              have BY := BY1.out
              have hPRY := hPR1
              have hPRd := hPRY.below ((Below.refl _ Y1).drew)
              have hwr := writes_any hPRd
              have hS42 : Y1.drew.cell? ⟨w1.heap.size, 0, none⟩ = some (.pointer (some ⟨R, 0, none⟩)) ∧ Y1.drew.cell? ⟨w.heap.size + 1, 0, none⟩ = some (.int .i64 n) := ⟨(BY.cell (World.block_lt_of_cell? W _ hDW')).trans hDW', (BY.cell (World.block_lt_of_cell? W _ hnW)).trans hnW⟩
              have hres : ∀ WK, Below Y1.drew.heap.size Y1.drew WK → WK.heap[w.heap.size + 1 + 1]? = some (.cells #[.bool false] 4 (0, 0)) := fun WK bK => (cutW_boxes w cap u _ _ n WK (HBW.out.trans (((BY.mono (by omega)).drew).trans (bK.mono (Nat.le_trans hsz0 BY.size))))).2.2
              go_wp2
              refine wp_region_held_drew (S := (fun w' => w'.cell? ⟨w1.heap.size, 0, none⟩ = some (.pointer (some ⟨R, 0, none⟩)) ∧ w'.cell? ⟨w.heap.size + 1, 0, none⟩ = some (.int .i64 n))) (by kernel_rfl) (by exact hS42) (fun hHeld => ?_)
              try dsimp only at hHeld
              refine take_op (i := 0) (d := 224) (OP := Op.move (Operand.tmp 21)) (T := 29) (v := ?vq64x) rfl rfl rfl rfl (by kernel_rfl) (by kernel_rfl) (by kernel_rfl) (fun _ _ _ h => h) (by rfl) ?hq64x hHeld ?rq64x
              case hq64x => (intro w' hSw; (try dsimp only at hSw); go_simp <;> with_reducible rfl)
              try simp only [Act.put, List.setIfInBounds_toArray, List.set_cons_zero, List.set_cons_succ]
              refine take_op (i := 1) (d := 225) (OP := Op.binOp BinOp.eql 29 (Operand.tmp 224) (Operand.const (Value.int IntKind.i64 0)) 29) (T := 4) (v := ?vq65x) rfl rfl rfl rfl (by kernel_rfl) (by kernel_rfl) (by kernel_rfl) (fun _ _ _ h => h) (by rfl) ?hq65x hHeld ?rq65x
              case hq65x => (intro w' hSw; (try dsimp only at hSw); go_simp <;> with_reducible rfl)
              try simp only [Act.put, List.setIfInBounds_toArray, List.set_cons_zero, List.set_cons_succ]
              refine take_op (i := 2) (d := 226) (OP := Op.load 3 (Operand.tmp 6)) (T := 3) (v := ?vq66x) rfl rfl rfl rfl (by kernel_rfl) (by kernel_rfl) (by kernel_rfl) (fun _ _ _ h => h) (by rfl) ?hq66x hHeld ?rq66x
              case hq66x => (intro w' hSw; (try dsimp only at hSw); go_simp <;> with_reducible rfl)
              try simp only [Act.put, List.setIfInBounds_toArray, List.set_cons_zero, List.set_cons_succ]
              refine take_op (i := 3) (d := 227) (OP := Op.binOp BinOp.geq 3 (Operand.tmp 226) (Operand.const (Value.int IntKind.i64 0)) 3) (T := 4) (v := ?vq67x) rfl rfl rfl rfl (by kernel_rfl) (by kernel_rfl) (by kernel_rfl) (fun _ _ _ h => h) (by rfl) ?hq67x hHeld ?rq67x
              case hq67x => (intro w' hSw; (try dsimp only at hSw); go_simp <;> with_reducible rfl)
              try simp only [Act.put, List.setIfInBounds_toArray, List.set_cons_zero, List.set_cons_succ]
              refine take_op (i := 4) (d := 228) (OP := Op.move (Operand.tmp 227)) (T := 4) (v := ?vq68x) rfl rfl rfl rfl (by kernel_rfl) (by kernel_rfl) (by kernel_rfl) (fun _ _ _ h => h) (by rfl) ?hq68x hHeld ?rq68x
              case hq68x => (intro w' hSw; (try dsimp only at hSw); go_simp <;> with_reducible rfl)
              try simp only [Act.put, List.setIfInBounds_toArray, List.set_cons_zero, List.set_cons_succ]
              refine take_op (i := 5) (d := 229) (OP := Op.load 3 (Operand.tmp 6)) (T := 3) (v := ?vq69x) rfl rfl rfl rfl (by kernel_rfl) (by kernel_rfl) (by kernel_rfl) (fun _ _ _ h => h) (by rfl) ?hq69x hHeld ?rq69x
              case hq69x => (intro w' hSw; (try dsimp only at hSw); go_simp <;> with_reducible rfl)
              try simp only [Act.put, List.setIfInBounds_toArray, List.set_cons_zero, List.set_cons_succ]
              refine take_op (i := 6) (d := 230) (OP := Op.load 28 (Operand.tmp 9)) (T := 28) (v := ?vq70x) rfl rfl rfl rfl (by kernel_rfl) (by kernel_rfl) (by kernel_rfl) (fun _ _ _ h => h) (by rfl) ?hq70x hHeld ?rq70x
              case hq70x => (intro w' hSw; (try dsimp only at hSw); go_simp <;> with_reducible rfl)
              try simp only [Act.put, List.setIfInBounds_toArray, List.set_cons_zero, List.set_cons_succ]
              refine call_op (i := 7) (d := 231) (OP := Op.call { callee := Callee.value (Operand.func 19), args := #[Operand.tmp 230], argTypes := #[28] }) (T := 3) (f := 19) (args := #[.pointer (some ⟨R, 0, none⟩)]) rfl rfl rfl rfl (by kernel_rfl) (by rfl) (by go_simp) ?_
              refine (hwr).mono ?_
              rintro e WW9 ⟨rfl, rfl⟩
              refine ⟨_, rfl, hHeld, ?_⟩
              replace hHeld := hHeld
              try simp only [Act.put, List.setIfInBounds_toArray, List.set_cons_zero, List.set_cons_succ]
              refine take_op (i := 8) (d := 232) (OP := Op.binOp BinOp.leq 3 (Operand.tmp 229) (Operand.tmp 231) 3) (T := 4) (v := ?vq72x) rfl rfl rfl rfl (by kernel_rfl) (by kernel_rfl) (by kernel_rfl) (fun _ _ _ h => h) (by rfl) ?hq72x hHeld ?rq72x
              case hq72x => (intro w' hSw; (try dsimp only at hSw); go_simp <;> with_reducible rfl)
              try simp only [Act.put, List.setIfInBounds_toArray, List.set_cons_zero, List.set_cons_succ]
              refine take_op (i := 9) (d := 233) (OP := Op.pick (Operand.tmp 228) (Operand.tmp 232) (Operand.const (Value.bool false))) (T := 4) (v := ?vq73x) rfl rfl rfl rfl (by kernel_rfl) (by kernel_rfl) (by kernel_rfl) (fun _ _ _ h => h) (by rfl) ?hq73x hHeld ?rq73x
              case hq73x => (intro w' hSw; (try dsimp only at hSw); go_simp <;> with_reducible rfl)
              try simp only [Act.put, List.setIfInBounds_toArray, List.set_cons_zero, List.set_cons_succ]
              refine take_op (i := 10) (d := 234) (OP := Op.binOp BinOp.eql 4 (Operand.tmp 225) (Operand.tmp 233) 4) (T := 4) (v := ?vq74x) rfl rfl rfl rfl (by kernel_rfl) (by kernel_rfl) (by kernel_rfl) (fun _ _ _ h => h) (by rfl) ?hq74x hHeld ?rq74x
              case hq74x => (intro w' hSw; (try dsimp only at hSw); go_simp <;> with_reducible rfl)
              try simp only [Act.put, List.setIfInBounds_toArray, List.set_cons_zero, List.set_cons_succ]
              refine take_op (i := 11) (d := 235) (OP := Op.move (Operand.tmp 234)) (T := 4) (v := ?vq75x) rfl rfl rfl rfl (by kernel_rfl) (by kernel_rfl) (by kernel_rfl) (fun _ _ _ h => h) (by rfl) ?hq75x hHeld ?rq75x
              case hq75x => (intro w' hSw; (try dsimp only at hSw); go_simp <;> with_reducible rfl)
              try simp only [Act.put, List.setIfInBounds_toArray, List.set_cons_zero, List.set_cons_succ]
              refine call_op (i := 12) (d := 236) (OP := Op.call { callee := Callee.value (Operand.func 6), args := #[], argTypes := #[] }) (T := 4) (f := 6) (args := #[]) rfl rfl rfl rfl (by kernel_rfl) (by rfl) (by go_simp) ?_
              refine (known_any _).mono ?_
              rintro e WK ⟨rfl, bK⟩
              have hKk : WK.cell? ⟨w1.heap.size, 0, none⟩ = some (.pointer (some ⟨R, 0, none⟩)) ∧ WK.cell? ⟨w.heap.size + 1, 0, none⟩ = some (.int .i64 n) := ⟨(bK.cell (World.block_lt_of_cell? _ _ hHeld.1)).trans hHeld.1, (bK.cell (World.block_lt_of_cell? _ _ hHeld.2)).trans hHeld.2⟩
              have e4 := hres WK bK
              have e5 : WK.cell? ⟨w.heap.size + 1 + 1, 0, none⟩ = some (.bool false) := (by rw [cell_of_row WK _ 0 _ 4 (0, 0) e4]; rfl)
              have e6 : WK.frozen? ⟨w.heap.size + 1 + 1, 0, none⟩ = false := frozen_of_row WK _ 0 _ 4 e4
              have hKz : (WK.setCell ⟨w.heap.size + 1 + 1, 0, none⟩ (.bool true)).cell? ⟨w1.heap.size, 0, none⟩ = some (.pointer (some ⟨R, 0, none⟩)) ∧ (WK.setCell ⟨w.heap.size + 1 + 1, 0, none⟩ (.bool true)).cell? ⟨w.heap.size + 1, 0, none⟩ = some (.int .i64 n) := ⟨(grown_setCell WK ⟨w.heap.size + 1 + 1, 0, none⟩ (.bool true)).cell hKk.1 (by simp; omega), (grown_setCell WK ⟨w.heap.size + 1 + 1, 0, none⟩ (.bool true)).cell hKk.2 (by simp)⟩
              refine ⟨_, rfl, hKk, ?_⟩
              replace hHeld := hKk
              try simp only [Act.put, List.setIfInBounds_toArray, List.set_cons_zero, List.set_cons_succ]
              refine take_op (i := 13) (d := 237) (OP := Op.pick (Operand.tmp 235) (Operand.tmp 236) (Operand.const (Value.bool false))) (T := 4) (v := ?vq77x) rfl rfl rfl rfl (by kernel_rfl) (by kernel_rfl) (by kernel_rfl) (fun _ _ _ h => h) (by rfl) ?hq77x hHeld ?rq77x
              case hq77x => (intro w' hSw; (try dsimp only at hSw); go_simp <;> with_reducible rfl)
              try simp only [Act.put, List.setIfInBounds_toArray, List.set_cons_zero, List.set_cons_succ]
              refine skip_op (i := 14) (OP := Op.store 4 (Operand.tmp 8) (Operand.tmp 237)) (T := 0) (w' := (WK.setCell ⟨w.heap.size + 1 + 1, 0, none⟩ (.bool true))) rfl rfl rfl rfl (by kernel_rfl) (by rfl) (by go_simp) ⟨hKz, ?_⟩
              replace hHeld := hKz
              refine wpAnyH_done (by kernel_rfl) ?_ _
              go_wp2
              have hBK : Below W.heap.size W WK := (BY.drew).trans (bK.mono BY.size)
              have hKK : (WK.setCell ⟨w.heap.size + 1 + 1, 0, none⟩ (.bool true)).heap[w7.heap.size + 2]? = some (.deferred (some [])) := by
                rw [heap_setCell_other _ _ _ _ (by simp only; omega), hBK.block _ hls]; exact hK
              have hput := only_putObj (WK.setCell ⟨w.heap.size + 1 + 1, 0, none⟩ (.bool true)) (w7.heap.size + 2) (.deferred none)
              have hset := Only.ofGrown (grown_setCell WK ⟨w.heap.size + 1 + 1, 0, none⟩ (.bool true))
              have hcell : (WK.setCell ⟨w.heap.size + 1 + 1, 0, none⟩ (.bool true)).cell? ⟨w.heap.size + 1 + 1, 0, none⟩ = some (.bool true) := by rw [cell_of_row _ _ 0 _ 4 (0, 0) (heap_setCell_same _ _ _ _ 4 _ e4)]; rfl
              have q1 : Below w.heap.size w WK := HWW.out.trans (hBK.mono (by omega))
              exact leave_mark (fn := Try.f4) hKK (leave_cell (w.heap.size + 1 + 1) (x := true) rfl rfl (hput.cell hcell (by simp only; omega)) ⟨rfl, Below.only (Below.only q1 hset q1.size (by intro j e; cases e; simp only; omega)) hput (by have := q1.size; simpa using this) (by intro j e; omega)⟩)
          · have hdm : decide (0 ≤ m) = false := by simpa using hm0
            clear hge hle hm0 hk0
            have t1 : True := trivial
            go_wp2_with (first
              | (go_at_call 17; clear t1; refine (hcutn _).mono ?_; rintro e Y1 ⟨C1, Fc1, Gc1, rfl, hPC1, _, _, bY1⟩; have BY1 := hide ((bWX _).trans (bY1.mono (hbS _))); have hPR1 := HPD.out.below BY1.out; have hnY1 : Y1.cell? ⟨w.heap.size + 1, 0, none⟩ = some (.int .i64 n) := (BY1.out.cell (World.block_lt_of_cell? W _ hnW)).trans hnW; have hDY1 : Y1.cell? ⟨w1.heap.size, 0, none⟩ = some (.pointer (some ⟨R, 0, none⟩)) := (BY1.out.cell (World.block_lt_of_cell? W _ hDW')).trans hDW'))
            have BY := BY1.out
            have hPRY := hPR1
            have hPRd := hPRY.below ((Below.refl _ Y1).drew)
            have hwr := writes_any hPRd
            have hS42 : Y1.drew.cell? ⟨w1.heap.size, 0, none⟩ = some (.pointer (some ⟨R, 0, none⟩)) ∧ Y1.drew.cell? ⟨w.heap.size + 1, 0, none⟩ = some (.int .i64 n) := ⟨(BY.cell (World.block_lt_of_cell? W _ hDW')).trans hDW', (BY.cell (World.block_lt_of_cell? W _ hnW)).trans hnW⟩
            have hres : ∀ WK, Below Y1.drew.heap.size Y1.drew WK → WK.heap[w.heap.size + 1 + 1]? = some (.cells #[.bool false] 4 (0, 0)) := fun WK bK => (cutW_boxes w cap u _ _ n WK (HBW.out.trans (((BY.mono (by omega)).drew).trans (bK.mono (Nat.le_trans hsz0 BY.size))))).2.2
            go_wp2
            refine wp_region_held_drew (S := (fun w' => w'.cell? ⟨w1.heap.size, 0, none⟩ = some (.pointer (some ⟨R, 0, none⟩)) ∧ w'.cell? ⟨w.heap.size + 1, 0, none⟩ = some (.int .i64 n))) (by kernel_rfl) (by exact hS42) (fun hHeld => ?_)
            try dsimp only at hHeld
            refine take_op (i := 0) (d := 224) (OP := Op.move (Operand.tmp 21)) (T := 29) (v := ?vq79x) rfl rfl rfl rfl (by kernel_rfl) (by kernel_rfl) (by kernel_rfl) (fun _ _ _ h => h) (by rfl) ?hq79x hHeld ?rq79x
            case hq79x => (intro w' hSw; (try dsimp only at hSw); go_simp <;> with_reducible rfl)
            try simp only [Act.put, List.setIfInBounds_toArray, List.set_cons_zero, List.set_cons_succ]
            refine take_op (i := 1) (d := 225) (OP := Op.binOp BinOp.eql 29 (Operand.tmp 224) (Operand.const (Value.int IntKind.i64 0)) 29) (T := 4) (v := ?vq80x) rfl rfl rfl rfl (by kernel_rfl) (by kernel_rfl) (by kernel_rfl) (fun _ _ _ h => h) (by rfl) ?hq80x hHeld ?rq80x
            case hq80x => (intro w' hSw; (try dsimp only at hSw); go_simp <;> with_reducible rfl)
            try simp only [Act.put, List.setIfInBounds_toArray, List.set_cons_zero, List.set_cons_succ]
            refine take_op (i := 2) (d := 226) (OP := Op.load 3 (Operand.tmp 6)) (T := 3) (v := ?vq81x) rfl rfl rfl rfl (by kernel_rfl) (by kernel_rfl) (by kernel_rfl) (fun _ _ _ h => h) (by rfl) ?hq81x hHeld ?rq81x
            case hq81x => (intro w' hSw; (try dsimp only at hSw); go_simp <;> with_reducible rfl)
            try simp only [Act.put, List.setIfInBounds_toArray, List.set_cons_zero, List.set_cons_succ]
            refine take_op (i := 3) (d := 227) (OP := Op.binOp BinOp.geq 3 (Operand.tmp 226) (Operand.const (Value.int IntKind.i64 0)) 3) (T := 4) (v := ?vq82x) rfl rfl rfl rfl (by kernel_rfl) (by kernel_rfl) (by kernel_rfl) (fun _ _ _ h => h) (by rfl) ?hq82x hHeld ?rq82x
            case hq82x => (intro w' hSw; (try dsimp only at hSw); go_simp <;> with_reducible rfl)
            try simp only [Act.put, List.setIfInBounds_toArray, List.set_cons_zero, List.set_cons_succ]
            refine take_op (i := 4) (d := 228) (OP := Op.move (Operand.tmp 227)) (T := 4) (v := ?vq83x) rfl rfl rfl rfl (by kernel_rfl) (by kernel_rfl) (by kernel_rfl) (fun _ _ _ h => h) (by rfl) ?hq83x hHeld ?rq83x
            case hq83x => (intro w' hSw; (try dsimp only at hSw); go_simp <;> with_reducible rfl)
            try simp only [Act.put, List.setIfInBounds_toArray, List.set_cons_zero, List.set_cons_succ]
            refine take_op (i := 5) (d := 229) (OP := Op.load 3 (Operand.tmp 6)) (T := 3) (v := ?vq84x) rfl rfl rfl rfl (by kernel_rfl) (by kernel_rfl) (by kernel_rfl) (fun _ _ _ h => h) (by rfl) ?hq84x hHeld ?rq84x
            case hq84x => (intro w' hSw; (try dsimp only at hSw); go_simp <;> with_reducible rfl)
            try simp only [Act.put, List.setIfInBounds_toArray, List.set_cons_zero, List.set_cons_succ]
            refine take_op (i := 6) (d := 230) (OP := Op.load 28 (Operand.tmp 9)) (T := 28) (v := ?vq85x) rfl rfl rfl rfl (by kernel_rfl) (by kernel_rfl) (by kernel_rfl) (fun _ _ _ h => h) (by rfl) ?hq85x hHeld ?rq85x
            case hq85x => (intro w' hSw; (try dsimp only at hSw); go_simp <;> with_reducible rfl)
            try simp only [Act.put, List.setIfInBounds_toArray, List.set_cons_zero, List.set_cons_succ]
            refine call_op (i := 7) (d := 231) (OP := Op.call { callee := Callee.value (Operand.func 19), args := #[Operand.tmp 230], argTypes := #[28] }) (T := 3) (f := 19) (args := #[.pointer (some ⟨R, 0, none⟩)]) rfl rfl rfl rfl (by kernel_rfl) (by rfl) (by go_simp) ?_
            refine (hwr).mono ?_
            rintro e WW9 ⟨rfl, rfl⟩
            refine ⟨_, rfl, hHeld, ?_⟩
            replace hHeld := hHeld
            try simp only [Act.put, List.setIfInBounds_toArray, List.set_cons_zero, List.set_cons_succ]
            refine take_op (i := 8) (d := 232) (OP := Op.binOp BinOp.leq 3 (Operand.tmp 229) (Operand.tmp 231) 3) (T := 4) (v := ?vq87x) rfl rfl rfl rfl (by kernel_rfl) (by kernel_rfl) (by kernel_rfl) (fun _ _ _ h => h) (by rfl) ?hq87x hHeld ?rq87x
            case hq87x => (intro w' hSw; (try dsimp only at hSw); go_simp <;> with_reducible rfl)
            try simp only [Act.put, List.setIfInBounds_toArray, List.set_cons_zero, List.set_cons_succ]
            refine take_op (i := 9) (d := 233) (OP := Op.pick (Operand.tmp 228) (Operand.tmp 232) (Operand.const (Value.bool false))) (T := 4) (v := ?vq88x) rfl rfl rfl rfl (by kernel_rfl) (by kernel_rfl) (by kernel_rfl) (fun _ _ _ h => h) (by rfl) ?hq88x hHeld ?rq88x
            case hq88x => (intro w' hSw; (try dsimp only at hSw); go_simp <;> with_reducible rfl)
            try simp only [Act.put, List.setIfInBounds_toArray, List.set_cons_zero, List.set_cons_succ]
            refine take_op (i := 10) (d := 234) (OP := Op.binOp BinOp.eql 4 (Operand.tmp 225) (Operand.tmp 233) 4) (T := 4) (v := ?vq89x) rfl rfl rfl rfl (by kernel_rfl) (by kernel_rfl) (by kernel_rfl) (fun _ _ _ h => h) (by rfl) ?hq89x hHeld ?rq89x
            case hq89x => (intro w' hSw; (try dsimp only at hSw); go_simp <;> with_reducible rfl)
            try simp only [Act.put, List.setIfInBounds_toArray, List.set_cons_zero, List.set_cons_succ]
            refine take_op (i := 11) (d := 235) (OP := Op.move (Operand.tmp 234)) (T := 4) (v := ?vq90x) rfl rfl rfl rfl (by kernel_rfl) (by kernel_rfl) (by kernel_rfl) (fun _ _ _ h => h) (by rfl) ?hq90x hHeld ?rq90x
            case hq90x => (intro w' hSw; (try dsimp only at hSw); go_simp <;> with_reducible rfl)
            try simp only [Act.put, List.setIfInBounds_toArray, List.set_cons_zero, List.set_cons_succ]
            refine call_op (i := 12) (d := 236) (OP := Op.call { callee := Callee.value (Operand.func 6), args := #[], argTypes := #[] }) (T := 4) (f := 6) (args := #[]) rfl rfl rfl rfl (by kernel_rfl) (by rfl) (by go_simp) ?_
            refine (known_any _).mono ?_
            rintro e WK ⟨rfl, bK⟩
            have hKk : WK.cell? ⟨w1.heap.size, 0, none⟩ = some (.pointer (some ⟨R, 0, none⟩)) ∧ WK.cell? ⟨w.heap.size + 1, 0, none⟩ = some (.int .i64 n) := ⟨(bK.cell (World.block_lt_of_cell? _ _ hHeld.1)).trans hHeld.1, (bK.cell (World.block_lt_of_cell? _ _ hHeld.2)).trans hHeld.2⟩
            have e4 := hres WK bK
            have e5 : WK.cell? ⟨w.heap.size + 1 + 1, 0, none⟩ = some (.bool false) := (by rw [cell_of_row WK _ 0 _ 4 (0, 0) e4]; rfl)
            have e6 : WK.frozen? ⟨w.heap.size + 1 + 1, 0, none⟩ = false := frozen_of_row WK _ 0 _ 4 e4
            have hKz : (WK.setCell ⟨w.heap.size + 1 + 1, 0, none⟩ (.bool true)).cell? ⟨w1.heap.size, 0, none⟩ = some (.pointer (some ⟨R, 0, none⟩)) ∧ (WK.setCell ⟨w.heap.size + 1 + 1, 0, none⟩ (.bool true)).cell? ⟨w.heap.size + 1, 0, none⟩ = some (.int .i64 n) := ⟨(grown_setCell WK ⟨w.heap.size + 1 + 1, 0, none⟩ (.bool true)).cell hKk.1 (by simp; omega), (grown_setCell WK ⟨w.heap.size + 1 + 1, 0, none⟩ (.bool true)).cell hKk.2 (by simp)⟩
            refine ⟨_, rfl, hKk, ?_⟩
            replace hHeld := hKk
            try simp only [Act.put, List.setIfInBounds_toArray, List.set_cons_zero, List.set_cons_succ]
            refine take_op (i := 13) (d := 237) (OP := Op.pick (Operand.tmp 235) (Operand.tmp 236) (Operand.const (Value.bool false))) (T := 4) (v := ?vq92x) rfl rfl rfl rfl (by kernel_rfl) (by kernel_rfl) (by kernel_rfl) (fun _ _ _ h => h) (by rfl) ?hq92x hHeld ?rq92x
            case hq92x => (intro w' hSw; (try dsimp only at hSw); go_simp <;> with_reducible rfl)
            try simp only [Act.put, List.setIfInBounds_toArray, List.set_cons_zero, List.set_cons_succ]
            refine skip_op (i := 14) (OP := Op.store 4 (Operand.tmp 8) (Operand.tmp 237)) (T := 0) (w' := (WK.setCell ⟨w.heap.size + 1 + 1, 0, none⟩ (.bool true))) rfl rfl rfl rfl (by kernel_rfl) (by rfl) (by go_simp) ⟨hKz, ?_⟩
            replace hHeld := hKz
            refine wpAnyH_done (by kernel_rfl) ?_ _
            go_wp2
            have hBK : Below W.heap.size W WK := (BY.drew).trans (bK.mono BY.size)
            have hKK : (WK.setCell ⟨w.heap.size + 1 + 1, 0, none⟩ (.bool true)).heap[w7.heap.size + 2]? = some (.deferred (some [])) := by
              rw [heap_setCell_other _ _ _ _ (by simp only; omega), hBK.block _ hls]; exact hK
            have hput := only_putObj (WK.setCell ⟨w.heap.size + 1 + 1, 0, none⟩ (.bool true)) (w7.heap.size + 2) (.deferred none)
            have hset := Only.ofGrown (grown_setCell WK ⟨w.heap.size + 1 + 1, 0, none⟩ (.bool true))
            have hcell : (WK.setCell ⟨w.heap.size + 1 + 1, 0, none⟩ (.bool true)).cell? ⟨w.heap.size + 1 + 1, 0, none⟩ = some (.bool true) := by rw [cell_of_row _ _ 0 _ 4 (0, 0) (heap_setCell_same _ _ _ _ 4 _ e4)]; rfl
            have q1 : Below w.heap.size w WK := HWW.out.trans (hBK.mono (by omega))
            exact leave_mark (fn := Try.f4) hKK (leave_cell (w.heap.size + 1 + 1) (x := true) rfl rfl (hput.cell hcell (by simp only; omega)) ⟨rfl, Below.only (Below.only q1 hset q1.size (by intro j e; cases e; simp only; omega)) hput (by have := q1.size; simpa using this) (by intro j e; omega)⟩)
        · by_cases hge : 0 ≤ n
          · have hle : ¬ n ≤ (log.length : Int) := fun h => hr ⟨hge, h⟩
            have hcutx := fun q => (hRq q |> fun h => cut_no h n (.inr (by omega)))
            have hdn : decide (0 ≤ n) = true := by simpa using hge
            have hdl : decide (n ≤ (log.length : Int)) = false := by simpa using hle
            clear hge hle hr
            go_wp2_with (first
              | (go_at_call 17; refine (hcutx _).mono ?_; rintro e Y1 ⟨rfl, bY1⟩; have BY1 := hide ((bWX _).trans (bY1.mono (hbS _))); have hPR1 := HPD.out.below BY1.out; have hnY1 : Y1.cell? ⟨w.heap.size + 1, 0, none⟩ = some (.int .i64 n) := (BY1.out.cell (World.block_lt_of_cell? W _ hnW)).trans hnW; have hDY1 : Y1.cell? ⟨w1.heap.size, 0, none⟩ = some (.pointer (some ⟨R, 0, none⟩)) := (BY1.out.cell (World.block_lt_of_cell? W _ hDW')).trans hDW'))
            have BY := BY1.out
            have hPRY := hPR1
            have hPRd := hPRY.below ((Below.refl _ Y1).drew)
            have hwr := writes_any hPRd
            have hS42 : Y1.drew.cell? ⟨w1.heap.size, 0, none⟩ = some (.pointer (some ⟨R, 0, none⟩)) ∧ Y1.drew.cell? ⟨w.heap.size + 1, 0, none⟩ = some (.int .i64 n) := ⟨(BY.cell (World.block_lt_of_cell? W _ hDW')).trans hDW', (BY.cell (World.block_lt_of_cell? W _ hnW)).trans hnW⟩
            have hres : ∀ WK, Below Y1.drew.heap.size Y1.drew WK → WK.heap[w.heap.size + 1 + 1]? = some (.cells #[.bool false] 4 (0, 0)) := fun WK bK => (cutW_boxes w cap u _ _ n WK (HBW.out.trans (((BY.mono (by omega)).drew).trans (bK.mono (Nat.le_trans hsz0 BY.size))))).2.2
            go_wp2
            refine wp_region_held_drew (S := (fun w' => w'.cell? ⟨w1.heap.size, 0, none⟩ = some (.pointer (some ⟨R, 0, none⟩)) ∧ w'.cell? ⟨w.heap.size + 1, 0, none⟩ = some (.int .i64 n))) (by kernel_rfl) (by exact hS42) (fun hHeld => ?_)
            try dsimp only at hHeld
            refine take_op (i := 0) (d := 224) (OP := Op.move (Operand.tmp 21)) (T := 29) (v := ?vq94x) rfl rfl rfl rfl (by kernel_rfl) (by kernel_rfl) (by kernel_rfl) (fun _ _ _ h => h) (by rfl) ?hq94x hHeld ?rq94x
            case hq94x => (intro w' hSw; (try dsimp only at hSw); go_simp <;> with_reducible rfl)
            try simp only [Act.put, List.setIfInBounds_toArray, List.set_cons_zero, List.set_cons_succ]
            refine take_op (i := 1) (d := 225) (OP := Op.binOp BinOp.eql 29 (Operand.tmp 224) (Operand.const (Value.int IntKind.i64 0)) 29) (T := 4) (v := ?vq95x) rfl rfl rfl rfl (by kernel_rfl) (by kernel_rfl) (by kernel_rfl) (fun _ _ _ h => h) (by rfl) ?hq95x hHeld ?rq95x
            case hq95x => (intro w' hSw; (try dsimp only at hSw); go_simp <;> with_reducible rfl)
            try simp only [Act.put, List.setIfInBounds_toArray, List.set_cons_zero, List.set_cons_succ]
            refine take_op (i := 2) (d := 226) (OP := Op.load 3 (Operand.tmp 6)) (T := 3) (v := ?vq96x) rfl rfl rfl rfl (by kernel_rfl) (by kernel_rfl) (by kernel_rfl) (fun _ _ _ h => h) (by rfl) ?hq96x hHeld ?rq96x
            case hq96x => (intro w' hSw; (try dsimp only at hSw); go_simp <;> with_reducible rfl)
            try simp only [Act.put, List.setIfInBounds_toArray, List.set_cons_zero, List.set_cons_succ]
            refine take_op (i := 3) (d := 227) (OP := Op.binOp BinOp.geq 3 (Operand.tmp 226) (Operand.const (Value.int IntKind.i64 0)) 3) (T := 4) (v := ?vq97x) rfl rfl rfl rfl (by kernel_rfl) (by kernel_rfl) (by kernel_rfl) (fun _ _ _ h => h) (by rfl) ?hq97x hHeld ?rq97x
            case hq97x => (intro w' hSw; (try dsimp only at hSw); go_simp <;> with_reducible rfl)
            try simp only [Act.put, List.setIfInBounds_toArray, List.set_cons_zero, List.set_cons_succ]
            refine take_op (i := 4) (d := 228) (OP := Op.move (Operand.tmp 227)) (T := 4) (v := ?vq98x) rfl rfl rfl rfl (by kernel_rfl) (by kernel_rfl) (by kernel_rfl) (fun _ _ _ h => h) (by rfl) ?hq98x hHeld ?rq98x
            case hq98x => (intro w' hSw; (try dsimp only at hSw); go_simp <;> with_reducible rfl)
            try simp only [Act.put, List.setIfInBounds_toArray, List.set_cons_zero, List.set_cons_succ]
            refine take_op (i := 5) (d := 229) (OP := Op.load 3 (Operand.tmp 6)) (T := 3) (v := ?vq99x) rfl rfl rfl rfl (by kernel_rfl) (by kernel_rfl) (by kernel_rfl) (fun _ _ _ h => h) (by rfl) ?hq99x hHeld ?rq99x
            case hq99x => (intro w' hSw; (try dsimp only at hSw); go_simp <;> with_reducible rfl)
            try simp only [Act.put, List.setIfInBounds_toArray, List.set_cons_zero, List.set_cons_succ]
            refine take_op (i := 6) (d := 230) (OP := Op.load 28 (Operand.tmp 9)) (T := 28) (v := ?vq100x) rfl rfl rfl rfl (by kernel_rfl) (by kernel_rfl) (by kernel_rfl) (fun _ _ _ h => h) (by rfl) ?hq100x hHeld ?rq100x
            case hq100x => (intro w' hSw; (try dsimp only at hSw); go_simp <;> with_reducible rfl)
            try simp only [Act.put, List.setIfInBounds_toArray, List.set_cons_zero, List.set_cons_succ]
            refine call_op (i := 7) (d := 231) (OP := Op.call { callee := Callee.value (Operand.func 19), args := #[Operand.tmp 230], argTypes := #[28] }) (T := 3) (f := 19) (args := #[.pointer (some ⟨R, 0, none⟩)]) rfl rfl rfl rfl (by kernel_rfl) (by rfl) (by go_simp) ?_
            refine (hwr).mono ?_
            rintro e WW9 ⟨rfl, rfl⟩
            refine ⟨_, rfl, hHeld, ?_⟩
            replace hHeld := hHeld
            try simp only [Act.put, List.setIfInBounds_toArray, List.set_cons_zero, List.set_cons_succ]
            refine take_op (i := 8) (d := 232) (OP := Op.binOp BinOp.leq 3 (Operand.tmp 229) (Operand.tmp 231) 3) (T := 4) (v := ?vq102x) rfl rfl rfl rfl (by kernel_rfl) (by kernel_rfl) (by kernel_rfl) (fun _ _ _ h => h) (by rfl) ?hq102x hHeld ?rq102x
            case hq102x => (intro w' hSw; (try dsimp only at hSw); go_simp <;> with_reducible rfl)
            try simp only [Act.put, List.setIfInBounds_toArray, List.set_cons_zero, List.set_cons_succ]
            refine take_op (i := 9) (d := 233) (OP := Op.pick (Operand.tmp 228) (Operand.tmp 232) (Operand.const (Value.bool false))) (T := 4) (v := ?vq103x) rfl rfl rfl rfl (by kernel_rfl) (by kernel_rfl) (by kernel_rfl) (fun _ _ _ h => h) (by rfl) ?hq103x hHeld ?rq103x
            case hq103x => (intro w' hSw; (try dsimp only at hSw); go_simp <;> with_reducible rfl)
            try simp only [Act.put, List.setIfInBounds_toArray, List.set_cons_zero, List.set_cons_succ]
            refine take_op (i := 10) (d := 234) (OP := Op.binOp BinOp.eql 4 (Operand.tmp 225) (Operand.tmp 233) 4) (T := 4) (v := ?vq104x) rfl rfl rfl rfl (by kernel_rfl) (by kernel_rfl) (by kernel_rfl) (fun _ _ _ h => h) (by rfl) ?hq104x hHeld ?rq104x
            case hq104x => (intro w' hSw; (try dsimp only at hSw); go_simp <;> with_reducible rfl)
            try simp only [Act.put, List.setIfInBounds_toArray, List.set_cons_zero, List.set_cons_succ]
            refine take_op (i := 11) (d := 235) (OP := Op.move (Operand.tmp 234)) (T := 4) (v := ?vq105x) rfl rfl rfl rfl (by kernel_rfl) (by kernel_rfl) (by kernel_rfl) (fun _ _ _ h => h) (by rfl) ?hq105x hHeld ?rq105x
            case hq105x => (intro w' hSw; (try dsimp only at hSw); go_simp <;> with_reducible rfl)
            try simp only [Act.put, List.setIfInBounds_toArray, List.set_cons_zero, List.set_cons_succ]
            refine call_op (i := 12) (d := 236) (OP := Op.call { callee := Callee.value (Operand.func 6), args := #[], argTypes := #[] }) (T := 4) (f := 6) (args := #[]) rfl rfl rfl rfl (by kernel_rfl) (by rfl) (by go_simp) ?_
            refine (known_any _).mono ?_
            rintro e WK ⟨rfl, bK⟩
            have hKk : WK.cell? ⟨w1.heap.size, 0, none⟩ = some (.pointer (some ⟨R, 0, none⟩)) ∧ WK.cell? ⟨w.heap.size + 1, 0, none⟩ = some (.int .i64 n) := ⟨(bK.cell (World.block_lt_of_cell? _ _ hHeld.1)).trans hHeld.1, (bK.cell (World.block_lt_of_cell? _ _ hHeld.2)).trans hHeld.2⟩
            have e4 := hres WK bK
            have e5 : WK.cell? ⟨w.heap.size + 1 + 1, 0, none⟩ = some (.bool false) := (by rw [cell_of_row WK _ 0 _ 4 (0, 0) e4]; rfl)
            have e6 : WK.frozen? ⟨w.heap.size + 1 + 1, 0, none⟩ = false := frozen_of_row WK _ 0 _ 4 e4
            have hKz : (WK.setCell ⟨w.heap.size + 1 + 1, 0, none⟩ (.bool true)).cell? ⟨w1.heap.size, 0, none⟩ = some (.pointer (some ⟨R, 0, none⟩)) ∧ (WK.setCell ⟨w.heap.size + 1 + 1, 0, none⟩ (.bool true)).cell? ⟨w.heap.size + 1, 0, none⟩ = some (.int .i64 n) := ⟨(grown_setCell WK ⟨w.heap.size + 1 + 1, 0, none⟩ (.bool true)).cell hKk.1 (by simp; omega), (grown_setCell WK ⟨w.heap.size + 1 + 1, 0, none⟩ (.bool true)).cell hKk.2 (by simp)⟩
            refine ⟨_, rfl, hKk, ?_⟩
            replace hHeld := hKk
            try simp only [Act.put, List.setIfInBounds_toArray, List.set_cons_zero, List.set_cons_succ]
            refine take_op (i := 13) (d := 237) (OP := Op.pick (Operand.tmp 235) (Operand.tmp 236) (Operand.const (Value.bool false))) (T := 4) (v := ?vq107x) rfl rfl rfl rfl (by kernel_rfl) (by kernel_rfl) (by kernel_rfl) (fun _ _ _ h => h) (by rfl) ?hq107x hHeld ?rq107x
            case hq107x => (intro w' hSw; (try dsimp only at hSw); go_simp <;> with_reducible rfl)
            try simp only [Act.put, List.setIfInBounds_toArray, List.set_cons_zero, List.set_cons_succ]
            refine skip_op (i := 14) (OP := Op.store 4 (Operand.tmp 8) (Operand.tmp 237)) (T := 0) (w' := (WK.setCell ⟨w.heap.size + 1 + 1, 0, none⟩ (.bool true))) rfl rfl rfl rfl (by kernel_rfl) (by rfl) (by go_simp) ⟨hKz, ?_⟩
            replace hHeld := hKz
            refine wpAnyH_done (by kernel_rfl) ?_ _
            go_wp2
            have hBK : Below W.heap.size W WK := (BY.drew).trans (bK.mono BY.size)
            have hKK : (WK.setCell ⟨w.heap.size + 1 + 1, 0, none⟩ (.bool true)).heap[w7.heap.size + 2]? = some (.deferred (some [])) := by
              rw [heap_setCell_other _ _ _ _ (by simp only; omega), hBK.block _ hls]; exact hK
            have hput := only_putObj (WK.setCell ⟨w.heap.size + 1 + 1, 0, none⟩ (.bool true)) (w7.heap.size + 2) (.deferred none)
            have hset := Only.ofGrown (grown_setCell WK ⟨w.heap.size + 1 + 1, 0, none⟩ (.bool true))
            have hcell : (WK.setCell ⟨w.heap.size + 1 + 1, 0, none⟩ (.bool true)).cell? ⟨w.heap.size + 1 + 1, 0, none⟩ = some (.bool true) := by rw [cell_of_row _ _ 0 _ 4 (0, 0) (heap_setCell_same _ _ _ _ 4 _ e4)]; rfl
            have q1 : Below w.heap.size w WK := HWW.out.trans (hBK.mono (by omega))
            exact leave_mark (fn := Try.f4) hKK (leave_cell (w.heap.size + 1 + 1) (x := true) rfl rfl (hput.cell hcell (by simp only; omega)) ⟨rfl, Below.only (Below.only q1 hset q1.size (by intro j e; cases e; simp only; omega)) hput (by have := q1.size; simpa using this) (by intro j e; omega)⟩)
          · have hcutx := fun q => (hRq q |> fun h => cut_no h n (.inl (by omega)))
            have hdn : decide (0 ≤ n) = false := by simpa using hge
            clear hge hr
            go_wp2_with (first
              | (go_at_call 17; refine (hcutx _).mono ?_; rintro e Y1 ⟨rfl, bY1⟩; have BY1 := hide ((bWX _).trans (bY1.mono (hbS _))); have hPR1 := HPD.out.below BY1.out; have hnY1 : Y1.cell? ⟨w.heap.size + 1, 0, none⟩ = some (.int .i64 n) := (BY1.out.cell (World.block_lt_of_cell? W _ hnW)).trans hnW; have hDY1 : Y1.cell? ⟨w1.heap.size, 0, none⟩ = some (.pointer (some ⟨R, 0, none⟩)) := (BY1.out.cell (World.block_lt_of_cell? W _ hDW')).trans hDW'))
            have BY := BY1.out
            have hPRY := hPR1
            have hPRd := hPRY.below ((Below.refl _ Y1).drew)
            have hwr := writes_any hPRd
            have hS42 : Y1.drew.cell? ⟨w1.heap.size, 0, none⟩ = some (.pointer (some ⟨R, 0, none⟩)) ∧ Y1.drew.cell? ⟨w.heap.size + 1, 0, none⟩ = some (.int .i64 n) := ⟨(BY.cell (World.block_lt_of_cell? W _ hDW')).trans hDW', (BY.cell (World.block_lt_of_cell? W _ hnW)).trans hnW⟩
            have hres : ∀ WK, Below Y1.drew.heap.size Y1.drew WK → WK.heap[w.heap.size + 1 + 1]? = some (.cells #[.bool false] 4 (0, 0)) := fun WK bK => (cutW_boxes w cap u _ _ n WK (HBW.out.trans (((BY.mono (by omega)).drew).trans (bK.mono (Nat.le_trans hsz0 BY.size))))).2.2
            go_wp2
            refine wp_region_held_drew (S := (fun w' => w'.cell? ⟨w1.heap.size, 0, none⟩ = some (.pointer (some ⟨R, 0, none⟩)) ∧ w'.cell? ⟨w.heap.size + 1, 0, none⟩ = some (.int .i64 n))) (by kernel_rfl) (by exact hS42) (fun hHeld => ?_)
            try dsimp only at hHeld
            refine take_op (i := 0) (d := 224) (OP := Op.move (Operand.tmp 21)) (T := 29) (v := ?vq109x) rfl rfl rfl rfl (by kernel_rfl) (by kernel_rfl) (by kernel_rfl) (fun _ _ _ h => h) (by rfl) ?hq109x hHeld ?rq109x
            case hq109x => (intro w' hSw; (try dsimp only at hSw); go_simp <;> with_reducible rfl)
            try simp only [Act.put, List.setIfInBounds_toArray, List.set_cons_zero, List.set_cons_succ]
            refine take_op (i := 1) (d := 225) (OP := Op.binOp BinOp.eql 29 (Operand.tmp 224) (Operand.const (Value.int IntKind.i64 0)) 29) (T := 4) (v := ?vq110x) rfl rfl rfl rfl (by kernel_rfl) (by kernel_rfl) (by kernel_rfl) (fun _ _ _ h => h) (by rfl) ?hq110x hHeld ?rq110x
            case hq110x => (intro w' hSw; (try dsimp only at hSw); go_simp <;> with_reducible rfl)
            try simp only [Act.put, List.setIfInBounds_toArray, List.set_cons_zero, List.set_cons_succ]
            refine take_op (i := 2) (d := 226) (OP := Op.load 3 (Operand.tmp 6)) (T := 3) (v := ?vq111x) rfl rfl rfl rfl (by kernel_rfl) (by kernel_rfl) (by kernel_rfl) (fun _ _ _ h => h) (by rfl) ?hq111x hHeld ?rq111x
            case hq111x => (intro w' hSw; (try dsimp only at hSw); go_simp <;> with_reducible rfl)
            try simp only [Act.put, List.setIfInBounds_toArray, List.set_cons_zero, List.set_cons_succ]
            refine take_op (i := 3) (d := 227) (OP := Op.binOp BinOp.geq 3 (Operand.tmp 226) (Operand.const (Value.int IntKind.i64 0)) 3) (T := 4) (v := ?vq112x) rfl rfl rfl rfl (by kernel_rfl) (by kernel_rfl) (by kernel_rfl) (fun _ _ _ h => h) (by rfl) ?hq112x hHeld ?rq112x
            case hq112x => (intro w' hSw; (try dsimp only at hSw); go_simp <;> with_reducible rfl)
            try simp only [Act.put, List.setIfInBounds_toArray, List.set_cons_zero, List.set_cons_succ]
            refine take_op (i := 4) (d := 228) (OP := Op.move (Operand.tmp 227)) (T := 4) (v := ?vq113x) rfl rfl rfl rfl (by kernel_rfl) (by kernel_rfl) (by kernel_rfl) (fun _ _ _ h => h) (by rfl) ?hq113x hHeld ?rq113x
            case hq113x => (intro w' hSw; (try dsimp only at hSw); go_simp <;> with_reducible rfl)
            try simp only [Act.put, List.setIfInBounds_toArray, List.set_cons_zero, List.set_cons_succ]
            refine pass_op (i := 5) (d := 229) rfl rfl (by kernel_rfl) (by kernel_rfl) (by kernel_rfl) (fun _ _ _ h => h) (by rfl) hHeld ?rq114x
            try simp only [Act.put, List.setIfInBounds_toArray, List.set_cons_zero, List.set_cons_succ]
            refine pass_op (i := 6) (d := 230) rfl rfl (by kernel_rfl) (by kernel_rfl) (by kernel_rfl) (fun _ _ _ h => h) (by rfl) hHeld ?rq115x
            try simp only [Act.put, List.setIfInBounds_toArray, List.set_cons_zero, List.set_cons_succ]
            refine pass_op (i := 7) (d := 231) rfl rfl (by kernel_rfl) (by kernel_rfl) (by kernel_rfl) (fun _ _ _ h => h) (by rfl) hHeld ?rq116x
            try simp only [Act.put, List.setIfInBounds_toArray, List.set_cons_zero, List.set_cons_succ]
            refine pass_op (i := 8) (d := 232) rfl rfl (by kernel_rfl) (by kernel_rfl) (by kernel_rfl) (fun _ _ _ h => h) (by rfl) hHeld ?rq117x
            try simp only [Act.put, List.setIfInBounds_toArray, List.set_cons_zero, List.set_cons_succ]
            refine take_op (i := 9) (d := 233) (OP := Op.pick (Operand.tmp 228) (Operand.tmp 232) (Operand.const (Value.bool false))) (T := 4) (v := ?vq118x) rfl rfl rfl rfl (by kernel_rfl) (by kernel_rfl) (by kernel_rfl) (fun _ _ _ h => h) (by rfl) ?hq118x hHeld ?rq118x
            case hq118x => (intro w' hSw; (try dsimp only at hSw); go_simp <;> with_reducible rfl)
            try simp only [Act.put, List.setIfInBounds_toArray, List.set_cons_zero, List.set_cons_succ]
            refine take_op (i := 10) (d := 234) (OP := Op.binOp BinOp.eql 4 (Operand.tmp 225) (Operand.tmp 233) 4) (T := 4) (v := ?vq119x) rfl rfl rfl rfl (by kernel_rfl) (by kernel_rfl) (by kernel_rfl) (fun _ _ _ h => h) (by rfl) ?hq119x hHeld ?rq119x
            case hq119x => (intro w' hSw; (try dsimp only at hSw); go_simp <;> with_reducible rfl)
            try simp only [Act.put, List.setIfInBounds_toArray, List.set_cons_zero, List.set_cons_succ]
            refine take_op (i := 11) (d := 235) (OP := Op.move (Operand.tmp 234)) (T := 4) (v := ?vq120x) rfl rfl rfl rfl (by kernel_rfl) (by kernel_rfl) (by kernel_rfl) (fun _ _ _ h => h) (by rfl) ?hq120x hHeld ?rq120x
            case hq120x => (intro w' hSw; (try dsimp only at hSw); go_simp <;> with_reducible rfl)
            try simp only [Act.put, List.setIfInBounds_toArray, List.set_cons_zero, List.set_cons_succ]
            refine call_op (i := 12) (d := 236) (OP := Op.call { callee := Callee.value (Operand.func 6), args := #[], argTypes := #[] }) (T := 4) (f := 6) (args := #[]) rfl rfl rfl rfl (by kernel_rfl) (by rfl) (by go_simp) ?_
            refine (known_any _).mono ?_
            rintro e WK ⟨rfl, bK⟩
            have hKk : WK.cell? ⟨w1.heap.size, 0, none⟩ = some (.pointer (some ⟨R, 0, none⟩)) ∧ WK.cell? ⟨w.heap.size + 1, 0, none⟩ = some (.int .i64 n) := ⟨(bK.cell (World.block_lt_of_cell? _ _ hHeld.1)).trans hHeld.1, (bK.cell (World.block_lt_of_cell? _ _ hHeld.2)).trans hHeld.2⟩
            have e4 := hres WK bK
            have e5 : WK.cell? ⟨w.heap.size + 1 + 1, 0, none⟩ = some (.bool false) := (by rw [cell_of_row WK _ 0 _ 4 (0, 0) e4]; rfl)
            have e6 : WK.frozen? ⟨w.heap.size + 1 + 1, 0, none⟩ = false := frozen_of_row WK _ 0 _ 4 e4
            have hKz : (WK.setCell ⟨w.heap.size + 1 + 1, 0, none⟩ (.bool true)).cell? ⟨w1.heap.size, 0, none⟩ = some (.pointer (some ⟨R, 0, none⟩)) ∧ (WK.setCell ⟨w.heap.size + 1 + 1, 0, none⟩ (.bool true)).cell? ⟨w.heap.size + 1, 0, none⟩ = some (.int .i64 n) := ⟨(grown_setCell WK ⟨w.heap.size + 1 + 1, 0, none⟩ (.bool true)).cell hKk.1 (by simp; omega), (grown_setCell WK ⟨w.heap.size + 1 + 1, 0, none⟩ (.bool true)).cell hKk.2 (by simp)⟩
            refine ⟨_, rfl, hKk, ?_⟩
            replace hHeld := hKk
            try simp only [Act.put, List.setIfInBounds_toArray, List.set_cons_zero, List.set_cons_succ]
            refine take_op (i := 13) (d := 237) (OP := Op.pick (Operand.tmp 235) (Operand.tmp 236) (Operand.const (Value.bool false))) (T := 4) (v := ?vq122x) rfl rfl rfl rfl (by kernel_rfl) (by kernel_rfl) (by kernel_rfl) (fun _ _ _ h => h) (by rfl) ?hq122x hHeld ?rq122x
            case hq122x => (intro w' hSw; (try dsimp only at hSw); go_simp <;> with_reducible rfl)
            try simp only [Act.put, List.setIfInBounds_toArray, List.set_cons_zero, List.set_cons_succ]
            refine skip_op (i := 14) (OP := Op.store 4 (Operand.tmp 8) (Operand.tmp 237)) (T := 0) (w' := (WK.setCell ⟨w.heap.size + 1 + 1, 0, none⟩ (.bool true))) rfl rfl rfl rfl (by kernel_rfl) (by rfl) (by go_simp) ⟨hKz, ?_⟩
            replace hHeld := hKz
            refine wpAnyH_done (by kernel_rfl) ?_ _
            go_wp2
            have hBK : Below W.heap.size W WK := (BY.drew).trans (bK.mono BY.size)
            have hKK : (WK.setCell ⟨w.heap.size + 1 + 1, 0, none⟩ (.bool true)).heap[w7.heap.size + 2]? = some (.deferred (some [])) := by
              rw [heap_setCell_other _ _ _ _ (by simp only; omega), hBK.block _ hls]; exact hK
            have hput := only_putObj (WK.setCell ⟨w.heap.size + 1 + 1, 0, none⟩ (.bool true)) (w7.heap.size + 2) (.deferred none)
            have hset := Only.ofGrown (grown_setCell WK ⟨w.heap.size + 1 + 1, 0, none⟩ (.bool true))
            have hcell : (WK.setCell ⟨w.heap.size + 1 + 1, 0, none⟩ (.bool true)).cell? ⟨w.heap.size + 1 + 1, 0, none⟩ = some (.bool true) := by rw [cell_of_row _ _ 0 _ 4 (0, 0) (heap_setCell_same _ _ _ _ 4 _ e4)]; rfl
            have q1 : Below w.heap.size w WK := HWW.out.trans (hBK.mono (by omega))
            exact leave_mark (fn := Try.f4) hKK (leave_cell (w.heap.size + 1 + 1) (x := true) rfl rfl (hput.cell hcell (by simp only; omega)) ⟨rfl, Below.only (Below.only q1 hset q1.size (by intro j e; cases e; simp only; omega)) hput (by have := q1.size; simpa using this) (by intro j e; omega)⟩)
end Go.Proofs.Ytfaceimamipbpaa
