/-
  journal: Part (93).
  walk: TREES THAT LIE APART (the plain part).
  walk: A REGION OF THE WALK'S CLOSURE: three calls in a row, the second knowing what the first answered.
  walk: THE WALK'S CLOSURE, the base apart from the first side.
  walk: Run, the base apart from the first side.
  walk: Elements, the base apart from the first side, whatever the values are.
  Three maps of elements run together, against the document's lists: plainly.
  journal: parts, plainly.
-/
import Derived.Test.YtkkpdgfllnbigaaGreatMg20
import Derived.Test.YtkkpdgfllnbigaaGreatMg12
import Derived.Test.YtkkpdgfllnbigaaGreatMg13
import Derived.Test.YtkkpdgfllnbigaaGreatMg18
import Derived.Test.YtkkpdgfllnbigaaGreatMg17
namespace Go.Proofs.YtkkpdgfllnbigaaGreat.Jo
open Go.RowKit Go.Shelf
set_option linter.unusedSimpArgs false
attribute [local go_sem] Oper.semAt_some

/-- Both rise: how far the one's entries are found in the other one. -/
def goP (l : List El) : Nat → List El → Nat
  | f, [] => f
  | f, x :: m => match l[f]? with
    | none => f
    | some y => if cmpT y.1 x.1 = -1 then f else if y = x then goP l (f + 1) m else goP l f m
def partF (l m : List El) : Bool := decide (goP l 0 m = l.length)
theorem els_few (t : Pm.T) : (elsL t.list).length ≤ t.n := by
  rw [elsL]
  split
  · rw [elsM, List.length_map, Pm.T.n_eq]; exact Nat.le_refl _
  · exact Nat.zero_le _
theorem beq_dec (f n : Nat) : ((f : Int) == (n : Int)) = decide (f = n) := by
  by_cases h : f = n
  · subst h; simp
  · rw [decide_eq_false h, beq_eq_false_iff_ne]; omega
theorem drop_cons' {l : List El} {i : Nat} {x : El} (h : l[i]? = some x) : l.drop i = x :: l.drop (i + 1) := by
  obtain ⟨hi, e⟩ := List.getElem?_eq_some_iff.1 h
  rw [List.drop_eq_getElem_cons hi, e]
set_option maxHeartbeats 8000000 in
set_option maxRecDepth 100000 in
theorem jPart_any {w : World} {x y : Pm.T} {px py : Option Addr} (hx : Mg w x) (hpx : x.ptr = .pointer px) (hy : Mg w y) (hpy : y.ptr = .pointer py) : Calls Tryz.prog 93 #[.agg #[.pointer px], .agg #[.pointer py]] w fun e w' => e = .returned (.bool (mayL x.list && mayL y.list && partF (elsL x.list) (elsL y.list))) ∧ Below w.heap.size w w' := by
  obtain ⟨w0, hw0⟩ : ∃ q, q = (w.alloc (.cells #[.pointer px] 27)).alloc (.cells #[.pointer py] 27) := ⟨_, rfl⟩
  obtain ⟨m0, m1⟩ := new2 w (.cells #[.pointer px] 27) (.cells #[.pointer py] 27)
  have b0 : Below w.heap.size w w0 := by rw [hw0]; exact ((Below.refl _ w).alloc (Nat.le_refl _) _).alloc (by simp) _
  rw [← hw0] at m0 m1
  have c0 : w0.cell? ⟨w.heap.size, 0, none⟩ = some (.pointer px) := (cell_of_row _ _ 0 _ 27 (0, 0) m0).trans rfl
  have c1 : w0.cell? ⟨w.heap.size + 1, 0, none⟩ = some (.pointer py) := (cell_of_row _ _ 0 _ 27 (0, 0) m1).trans rfl
  have HW0 := hide (And.intro hw0 b0)
  obtain ⟨EX, hEX⟩ : ∃ q, q = elsL x.list := ⟨_, rfl⟩
  obtain ⟨EY, hEY⟩ : ∃ q, q = elsL y.list := ⟨_, rfl⟩
  obtain ⟨NX, hNX⟩ : ∃ q, q = EX.length := ⟨_, rfl⟩
  obtain ⟨NY, hNY⟩ : ∃ q, q = EY.length := ⟨_, rfl⟩
  have hbx : NX ≤ 400 := by rw [hNX, hEX]; exact Nat.le_trans (els_few x) hx.few
  have hby : NY ≤ 400 := by rw [hNY, hEY]; exact Nat.le_trans (els_few y) hy.few
  have heX : ∀ W, Below w.heap.size w W → Calls Tryz.prog 97 #[.agg #[.pointer px]] W fun e w' => ∃ ao c, e = .returned (.tuple #[.slice ao NX c, .int .i64 (if mayL x.list then 0 else 2)]) ∧ Re w' ao EX ∧ Below W.heap.size W w' := fun W hW => by
    have := elementsJ (hx.below hW) hpx
    rw [← hEX, ← hNX] at this
    exact this.mono fun e w' ⟨a1, c1, h1, h2, h3⟩ => ⟨a1, c1, h1, h2.re, h3⟩
  have heY : ∀ W, Below w.heap.size w W → Calls Tryz.prog 97 #[.agg #[.pointer py]] W fun e w' => ∃ ao c, e = .returned (.tuple #[.slice ao NY c, .int .i64 (if mayL y.list then 0 else 2)]) ∧ Re w' ao EY ∧ Below W.heap.size W w' := fun W hW => by
    have := elementsJ (hy.below hW) hpy
    rw [← hEY, ← hNY] at this
    exact this.mono fun e w' ⟨a1, c1, h1, h2, h3⟩ => ⟨a1, c1, h1, h2.re, h3⟩
  rw [← hEX, ← hEY]
  have hP : partF EX EY = decide (goP EX 0 EY = NX) := by rw [hNX]; rfl
  rw [hP]
  have HN := hide (And.intro hNX hNY)
  generalize mayL x.list = MX at *
  generalize mayL y.list = MY at *
  clear hx hy hpx hpy m0 m1 hw0 hEX hEY hNX hNY hP
  cases MX with
  | false =>
    simp only [Bool.false_eq_true, if_false] at heX
    generalize (if MY = true then (0 : Int) else 2) = ey at heY
    go_enter Tryz.func93, Tryz.ntmps93
    go_upto_region 1 with fail
    rw [← HW0.out.1]
    refine wp_scope_straight ?_
    go_wp2_with (first
      | (go_at_call 97; refine (heY _ H1.out.2).mono ?_; rintro e w2 ⟨a2, c2, rfl, r2, b2⟩; have H2 := hide (And.intro r2 (H1.out.2.trans (b2.mono H1.out.2.size))); clear r2 b2; dsimp only)
      | (go_at_call 97; refine (heX _ b0).mono ?_; rintro e w1 ⟨a1, c1', rfl, r1, b1⟩; have H1 := hide (And.intro r1 (b0.trans (b1.mono b0.size))); have c1 := cell_stays c1 b1; clear r1 b1; dsimp only))
    try rw [Exit.noGoto_ret]
    go_ret
    exact ⟨rfl, H2.out.2⟩
  | true =>
  simp only [if_true] at heX
  cases MY with
  | false =>
    simp only [Bool.false_eq_true, if_false] at heY
    go_enter Tryz.func93, Tryz.ntmps93
    go_upto_region 1 with fail
    rw [← HW0.out.1]
    refine wp_scope_straight ?_
    go_wp2_with (first
      | (go_at_call 97; refine (heY _ H1.out.2).mono ?_; rintro e w2 ⟨a2, c2, rfl, r2, b2⟩; have H2 := hide (And.intro r2 (H1.out.2.trans (b2.mono H1.out.2.size))); clear r2 b2; dsimp only)
      | (go_at_call 97; refine (heX _ b0).mono ?_; rintro e w1 ⟨a1, c1', rfl, r1, b1⟩; have H1 := hide (And.intro r1 (b0.trans (b1.mono b0.size))); have c1 := cell_stays c1 b1; clear r1 b1; dsimp only))
    try rw [Exit.noGoto_ret]
    go_ret
    exact ⟨rfl, H2.out.2⟩
  | true =>
    simp only [if_true] at heY
    go_enter Tryz.func93, Tryz.ntmps93
    go_upto_region 1 with fail
    rw [← HW0.out.1]
    refine wp_scope_straight ?_
    go_upto_region 5 with (first
      | (go_at_call 97; refine (heY _ H1.out.2).mono ?_; rintro e w2 ⟨a2, c2, rfl, r2, b2⟩; have H2 := hide (And.intro (H1.out.1.below b2) (And.intro r2 (H1.out.2.trans (b2.mono H1.out.2.size)))); clear r2 b2; dsimp only)
      | (go_at_call 97; refine (heX _ b0).mono ?_; rintro e w1 ⟨a1, c1', rfl, r1, b1⟩; have H1 := hide (And.intro r1 (b0.trans (b1.mono b0.size))); have c1 := cell_stays c1 b1; clear r1 b1; dsimp only))
    clear heX heY c0 c1 b0 H1
    go_wp2_with fail
    refine wp_label ?_
    go_wp2_with fail
    go_loopw [9, 30] (fun v9 v30 wr => ∃ f j : Nat, j ≤ NY ∧ f ≤ NX ∧ f ≤ j ∧ v9 = .int .i64 (f : Nat) ∧ v30 = .int .i64 (j : Nat) ∧ Hid (goP EX f (EY.drop j) = goP EX 0 EY ∧ Below w2.heap.size w2 wr)) (fun _ v30 _ => NY - (intOf v30).toNat)
    case atStart => exact ⟨0, 0, Nat.zero_le _, Nat.zero_le _, Nat.le_refl _, rfl, rfl, hide ⟨rfl, Below.refl _ _⟩⟩
    case round =>
      obtain ⟨f, j, hj, hf, hfj, rfl, rfl, HI⟩ := hrel
      by_cases hlt : j < NY
      · have z1 : (j : Int) < (NY : Int) := by omega
        have z2 : decide ((j : Int) < (NY : Int)) = true := by simpa using z1
        obtain ⟨x, hx⟩ : ∃ x, EY[j]? = some x := ⟨_, List.getElem?_eq_getElem (by rw [← HN.out.2]; exact hlt)⟩
        have hdr : goP EX f (x :: EY.drop (j + 1)) = goP EX 0 EY := by rw [← drop_cons' hx]; exact HI.out.1
        obtain ⟨bb, ob, ha2, q0, q1, q2, q3, q4, q5⟩ := (H2.out.2.1.below HI.out.2).cells hx
        obtain ⟨⟨g, r, lb, n, ix⟩, X⟩ := x
        dsimp only at q0 q1 q2 q3 q4 q5
        have HA2 := hide ha2
        obtain ⟨Eb, hEb⟩ : ∃ Eb, Eb = wr.heap.size := ⟨_, rfl⟩
        obtain ⟨wE, hwE⟩ : ∃ wE, wE = wr.alloc (.cells #[.int .i64 g, .int .i64 r, .string lb, .int .i64 n, .int .i64 ix, .string X] 53) := ⟨_, rfl⟩
        have rE : wE.heap[Eb]? = some (.cells #[.int .i64 g, .int .i64 r, .string lb, .int .i64 n, .int .i64 ix, .string X] 53 (0, 0)) := by rw [hwE, hEb]; exact heap_alloc_new wr _
        have bE : Below wr.heap.size wr wE := by rw [hwE]; exact (Below.refl _ wr).alloc (Nat.le_refl _) _
        have bw : Below w2.heap.size w2 wE := HI.out.2.trans (bE.mono HI.out.2.size)
        have HWE := hide (And.intro hwE hEb)
        have HBW := hide bw
        obtain ⟨x0, x1, x2, x3, x4, x5⟩ := cells_of_enc rE
        subst ha2
        by_cases hfn : f = NX
        · have hend : goP EX 0 EY = NX := by
            rw [← hdr, goP, show EX[f]? = none by rw [List.getElem?_eq_none_iff, ← HN.out.1]; omega]
            exact hfn
          have HEND := hide hend
          subst hfn
          clear hx hdr hEb hwE rE bE bw hend x0 x1 x2 x3 x4 x5
          go_upto_region 9 with fail
          rw [← HWE.out.1]
          go_wp2
          try rw [Exit.noGoto_ret]
          go_ret
          exact ⟨by rw [HEND.out]; simp, H2.out.2.2.trans (HBW.out.mono H2.out.2.2.size)⟩
        · obtain ⟨y, hy⟩ : ∃ y, EX[f]? = some y := ⟨_, List.getElem?_eq_getElem (by rw [← HN.out.1]; omega)⟩
          have zf : (f : Int) < (NX : Int) := by omega
          have ef : decide ((f : Int) = (NX : Int)) = false := by simpa using (by omega : ¬ (f : Int) = (NX : Int))
          have ef2 : ((f : Int) == (NX : Int)) = false := by rw [beq_eq_false_iff_ne]; omega
          have ef3 : decide (f = NX) = false := by simpa using hfn
          obtain ⟨ba, oa, ha1, y0, y1, y2, y3, y4, y5⟩ := (H2.out.1.below bw).cells hy
          have hgo : goP EX 0 EY = if cmpT y.1 (g, r, lb, n, ix) = -1 then f else if y = ((g, r, lb, n, ix), X) then goP EX (f + 1) (EY.drop (j + 1)) else goP EX f (EY.drop (j + 1)) := by rw [← hdr, goP, hy]
          obtain ⟨⟨g1, r1, l1, n1, i1⟩, Y⟩ := y
          dsimp only at y0 y1 y2 y3 y4 y5 hgo
          subst ha1
          have HQ : Hid (wE.cell? ⟨Eb, 0, none⟩ = some (.int .i64 g) ∧ wE.cell? ⟨Eb, 1, none⟩ = some (.int .i64 r) ∧ wE.cell? ⟨Eb, 2, none⟩ = some (.string lb) ∧ wE.cell? ⟨Eb, 3, none⟩ = some (.int .i64 n) ∧ wE.cell? ⟨Eb, 4, none⟩ = some (.int .i64 ix) ∧ wE.cell? ⟨Eb, 5, none⟩ = some (.string X) ∧ wE.cell? ⟨ba, oa + f * 6, none⟩ = some (.int .i64 g1) ∧ wE.cell? ⟨ba, oa + f * 6 + 1, none⟩ = some (.int .i64 r1) ∧ wE.cell? ⟨ba, oa + f * 6 + 2, none⟩ = some (.string l1) ∧ wE.cell? ⟨ba, oa + f * 6 + 3, none⟩ = some (.int .i64 n1) ∧ wE.cell? ⟨ba, oa + f * 6 + 4, none⟩ = some (.int .i64 i1) ∧ wE.cell? ⟨ba, oa + f * 6 + 5, none⟩ = some (.string Y) ∧ Below wE.heap.size wE wE) := hide ⟨x0, x1, x2, x3, x4, x5, y0, y1, y2, y3, y4, y5, Below.refl _ _⟩
          obtain ⟨CZ, hCZ⟩ : ∃ C, C = cmpT (g1, r1, l1, n1, i1) (g, r, lb, n, ix) := ⟨_, rfl⟩
          have hcm : ∀ W, Calls Tryz.prog 127 #[.agg #[.int .i64 g1, .int .i64 r1, .string l1, .int .i64 n1, .int .i64 i1], .agg #[.int .i64 g, .int .i64 r, .string lb, .int .i64 n, .int .i64 ix]] W fun e w' => e = .returned (.int .i64 CZ) ∧ Below W.heap.size W w' := fun W => (cmpS_grow g1 r1 l1 n1 i1 g r lb n ix W).mono fun e w' hh => ⟨by rw [hCZ, ← cmpS_eq]; exact hh.1, hh.2.low⟩
          have hcr := ord_T.range (g1, r1, l1, n1, i1) (g, r, lb, n, ix)
          rw [← hCZ] at hcr hgo
          have heq := fun W => run_eq77 ((g1, r1, l1, n1, i1), Y) ((g, r, lb, n, ix), X) W
          dsimp only [ev] at heq
          obtain ⟨EQ, hEQ⟩ : ∃ b, b = decide (((g1, r1, l1, n1, i1), Y) = ((g, r, lb, n, ix), X)) := ⟨_, rfl⟩
          rw [← hEQ] at heq
          have HGO := hide (And.intro hgo (And.intro hEQ HN.out))
          clear hx hdr hEb hwE rE bE bw hgo hEQ hCZ hy x0 x1 x2 x3 x4 x5 y0 y1 y2 y3 y4 y5
          by_cases hlow : CZ = -1
          · have hCB : decide (CZ < 0) = true := by rw [hlow]; rfl
            obtain ⟨CB, hCBe⟩ : ∃ b, b = true := ⟨true, rfl⟩
            have HLW := hide hlow
            clear hcr hlow heq
            go_upto_region 10 with fail
            rw [← HWE.out.1, ← HWE.out.2]
            refine wp_region_held_drew (S := fun w' => w'.cell? ⟨Eb, 0, none⟩ = some (.int .i64 g) ∧ w'.cell? ⟨Eb, 1, none⟩ = some (.int .i64 r) ∧ w'.cell? ⟨Eb, 2, none⟩ = some (.string lb) ∧ w'.cell? ⟨Eb, 3, none⟩ = some (.int .i64 n) ∧ w'.cell? ⟨Eb, 4, none⟩ = some (.int .i64 ix) ∧ w'.cell? ⟨Eb, 5, none⟩ = some (.string X) ∧ w'.cell? ⟨ba, oa + f * 6, none⟩ = some (.int .i64 g1) ∧ w'.cell? ⟨ba, oa + f * 6 + 1, none⟩ = some (.int .i64 r1) ∧ w'.cell? ⟨ba, oa + f * 6 + 2, none⟩ = some (.string l1) ∧ w'.cell? ⟨ba, oa + f * 6 + 3, none⟩ = some (.int .i64 n1) ∧ w'.cell? ⟨ba, oa + f * 6 + 4, none⟩ = some (.int .i64 i1) ∧ w'.cell? ⟨ba, oa + f * 6 + 5, none⟩ = some (.string Y) ∧ Below wE.heap.size wE w') (by kernel_rfl) (by exact ⟨cell_stays HQ.out.1 (drew_below wE), cell_stays HQ.out.2.1 (drew_below wE), cell_stays HQ.out.2.2.1 (drew_below wE), cell_stays HQ.out.2.2.2.1 (drew_below wE), cell_stays HQ.out.2.2.2.2.1 (drew_below wE), cell_stays HQ.out.2.2.2.2.2.1 (drew_below wE), cell_stays HQ.out.2.2.2.2.2.2.1 (drew_below wE), cell_stays HQ.out.2.2.2.2.2.2.2.1 (drew_below wE), cell_stays HQ.out.2.2.2.2.2.2.2.2.1 (drew_below wE), cell_stays HQ.out.2.2.2.2.2.2.2.2.2.1 (drew_below wE), cell_stays HQ.out.2.2.2.2.2.2.2.2.2.2.1 (drew_below wE), cell_stays HQ.out.2.2.2.2.2.2.2.2.2.2.2.1 (drew_below wE), (HQ.out.2.2.2.2.2.2.2.2.2.2.2.2).trans ((drew_below wE).mono (HQ.out.2.2.2.2.2.2.2.2.2.2.2.2).size)⟩) (fun hHeld => ?_)
            try dsimp only at hHeld
            refine take_op (i := 0) (d := 39) (OP := Op.move (Operand.tmp 5)) (T := 22) (v := ?v1) rfl rfl rfl rfl (by kernel_rfl) (by kernel_rfl) (by kernel_rfl) (fun _ _ _ h => h) (by rfl) ?h1 hHeld ?r1
            case h1 => (intro w' hSw; (try dsimp only at hSw); go_simp <;> with_reducible rfl)
            try simp only [Act.put, sI, sZ, sS]
            refine take_op (i := 1) (d := 40) (OP := Op.move (Operand.tmp 9)) (T := 3) (v := ?v2) rfl rfl rfl rfl (by kernel_rfl) (by kernel_rfl) (by kernel_rfl) (fun _ _ _ h => h) (by rfl) ?h2 hHeld ?r2
            case h2 => (intro w' hSw; (try dsimp only at hSw); go_simp <;> with_reducible rfl)
            try simp only [Act.put, sI, sZ, sS]
            refine take_op (i := 2) (d := 41) (OP := Op.indexAddr 22 (Operand.tmp 39) (Operand.tmp 40)) (T := 0) (v := ?v3) rfl rfl rfl rfl (by kernel_rfl) (by kernel_rfl) (by kernel_rfl) (fun _ _ _ h => h) (by rfl) ?h3 hHeld ?r3
            case h3 => (intro w' hSw; (try dsimp only at hSw); go_simp <;> with_reducible rfl)
            try simp only [Act.put, sI, sZ, sS]
            refine take_op (i := 3) (d := 42) (OP := Op.fieldAddr 53 (Operand.tmp 41) 0) (T := 0) (v := ?v4) rfl rfl rfl rfl (by kernel_rfl) (by kernel_rfl) (by kernel_rfl) (fun _ _ _ h => h) (by rfl) ?h4 hHeld ?r4
            case h4 => (intro w' hSw; (try dsimp only at hSw); go_simp <;> with_reducible rfl)
            try simp only [Act.put, sI, sZ, sS]
            refine take_op (i := 4) (d := 43) (OP := Op.load 43 (Operand.tmp 42)) (T := 43) (v := ?v5) rfl rfl rfl rfl (by kernel_rfl) (by kernel_rfl) (by kernel_rfl) (fun _ _ _ h => h) (by rfl) ?h5 hHeld ?r5
            case h5 => (intro w' hSw; (try dsimp only at hSw); go_simp <;> with_reducible rfl)
            try simp only [Act.put, sI, sZ, sS]
            refine take_op (i := 5) (d := 44) (OP := Op.fieldAddr 53 (Operand.tmp 11) 0) (T := 0) (v := ?v6) rfl rfl rfl rfl (by kernel_rfl) (by kernel_rfl) (by kernel_rfl) (fun _ _ _ h => h) (by rfl) ?h6 hHeld ?r6
            case h6 => (intro w' hSw; (try dsimp only at hSw); go_simp <;> with_reducible rfl)
            try simp only [Act.put, sI, sZ, sS]
            refine take_op (i := 6) (d := 45) (OP := Op.load 43 (Operand.tmp 44)) (T := 43) (v := ?v7) rfl rfl rfl rfl (by kernel_rfl) (by kernel_rfl) (by kernel_rfl) (fun _ _ _ h => h) (by rfl) ?h7 hHeld ?r7
            case h7 => (intro w' hSw; (try dsimp only at hSw); go_simp <;> with_reducible rfl)
            try simp only [Act.put, sI, sZ, sS]
            refine call_op (i := 7) (d := 46) (OP := Op.call { callee := Callee.value (Operand.func 127), args := #[Operand.tmp 43, Operand.tmp 45], argTypes := #[43, 43] }) (T := 3) (f := 127) (args := #[.agg #[.int .i64 g1, .int .i64 r1, .string l1, .int .i64 n1, .int .i64 i1], .agg #[.int .i64 g, .int .i64 r, .string lb, .int .i64 n, .int .i64 ix]]) rfl rfl rfl rfl (by kernel_rfl) (by rfl) (by go_simp) ?_
            refine (hcm _).mono ?_
            rintro e zc ⟨rfl, bzc⟩
            have qz : zc.cell? ⟨Eb, 0, none⟩ = some (.int .i64 g) ∧ zc.cell? ⟨Eb, 1, none⟩ = some (.int .i64 r) ∧ zc.cell? ⟨Eb, 2, none⟩ = some (.string lb) ∧ zc.cell? ⟨Eb, 3, none⟩ = some (.int .i64 n) ∧ zc.cell? ⟨Eb, 4, none⟩ = some (.int .i64 ix) ∧ zc.cell? ⟨Eb, 5, none⟩ = some (.string X) ∧ zc.cell? ⟨ba, oa + f * 6, none⟩ = some (.int .i64 g1) ∧ zc.cell? ⟨ba, oa + f * 6 + 1, none⟩ = some (.int .i64 r1) ∧ zc.cell? ⟨ba, oa + f * 6 + 2, none⟩ = some (.string l1) ∧ zc.cell? ⟨ba, oa + f * 6 + 3, none⟩ = some (.int .i64 n1) ∧ zc.cell? ⟨ba, oa + f * 6 + 4, none⟩ = some (.int .i64 i1) ∧ zc.cell? ⟨ba, oa + f * 6 + 5, none⟩ = some (.string Y) ∧ Below wE.heap.size wE zc := ⟨cell_stays hHeld.1 bzc, cell_stays hHeld.2.1 bzc, cell_stays hHeld.2.2.1 bzc, cell_stays hHeld.2.2.2.1 bzc, cell_stays hHeld.2.2.2.2.1 bzc, cell_stays hHeld.2.2.2.2.2.1 bzc, cell_stays hHeld.2.2.2.2.2.2.1 bzc, cell_stays hHeld.2.2.2.2.2.2.2.1 bzc, cell_stays hHeld.2.2.2.2.2.2.2.2.1 bzc, cell_stays hHeld.2.2.2.2.2.2.2.2.2.1 bzc, cell_stays hHeld.2.2.2.2.2.2.2.2.2.2.1 bzc, cell_stays hHeld.2.2.2.2.2.2.2.2.2.2.2.1 bzc, (hHeld.2.2.2.2.2.2.2.2.2.2.2.2).trans (bzc.mono (hHeld.2.2.2.2.2.2.2.2.2.2.2.2).size)⟩
            refine ⟨_, rfl, qz, ?_⟩
            replace hHeld := qz
            clear qz bzc
            try simp only [Act.put, sI, sZ, sS]
            refine take_op (i := 8) (d := 47) (OP := Op.binOp BinOp.lss 3 (Operand.tmp 46) (Operand.const (Value.int IntKind.i64 0)) 3) (T := 4) (v := .bool true) rfl rfl rfl rfl (by kernel_rfl) (by kernel_rfl) (by kernel_rfl) (fun _ _ _ h => h) (by rfl) ?h8 hHeld ?r8
            case h8 => (intro w' hSw; (try dsimp only at hSw); go_simp <;> (first | with_reducible rfl | (simp; omega) | (simpa using hCB)))
            try simp only [Act.put, sI, sZ, sS]
            refine take_op (i := 9) (d := 34) (OP := Op.assign (Operand.tmp 47)) (T := 4) (v := ?v9) rfl rfl rfl rfl (by kernel_rfl) (by kernel_rfl) (by kernel_rfl) (fun _ _ _ h => h) (by rfl) ?h9 hHeld ?r9
            case h9 => (intro w' hSw; (try dsimp only at hSw); go_simp <;> with_reducible rfl)
            try simp only [Act.put, sI, sZ, sS]
            refine wpAnyH_done (by kernel_rfl) ?_ _
            have HE := hide hHeld
            clear hHeld hcm HQ
            go_wp2
            try rw [Exit.noGoto_ret]
            go_ret
            refine ⟨?_, H2.out.2.2.trans ((HBW.out.trans (HE.out.2.2.2.2.2.2.2.2.2.2.2.2.mono HBW.out.size)).mono H2.out.2.2.size)⟩
            rw [HGO.out.1, if_pos HLW.out, ef3]; rfl
          · have hCB : decide (CZ < 0) = false := by simp; omega
            have hcn : ¬ CZ < 0 := by omega
            have HLW := hide hlow
            clear hcr hlow
            go_upto_region 10 with fail
            rw [← HWE.out.1, ← HWE.out.2]
            refine wp_region_held_drew (S := fun w' => w'.cell? ⟨Eb, 0, none⟩ = some (.int .i64 g) ∧ w'.cell? ⟨Eb, 1, none⟩ = some (.int .i64 r) ∧ w'.cell? ⟨Eb, 2, none⟩ = some (.string lb) ∧ w'.cell? ⟨Eb, 3, none⟩ = some (.int .i64 n) ∧ w'.cell? ⟨Eb, 4, none⟩ = some (.int .i64 ix) ∧ w'.cell? ⟨Eb, 5, none⟩ = some (.string X) ∧ w'.cell? ⟨ba, oa + f * 6, none⟩ = some (.int .i64 g1) ∧ w'.cell? ⟨ba, oa + f * 6 + 1, none⟩ = some (.int .i64 r1) ∧ w'.cell? ⟨ba, oa + f * 6 + 2, none⟩ = some (.string l1) ∧ w'.cell? ⟨ba, oa + f * 6 + 3, none⟩ = some (.int .i64 n1) ∧ w'.cell? ⟨ba, oa + f * 6 + 4, none⟩ = some (.int .i64 i1) ∧ w'.cell? ⟨ba, oa + f * 6 + 5, none⟩ = some (.string Y) ∧ Below wE.heap.size wE w') (by kernel_rfl) (by exact ⟨cell_stays HQ.out.1 (drew_below wE), cell_stays HQ.out.2.1 (drew_below wE), cell_stays HQ.out.2.2.1 (drew_below wE), cell_stays HQ.out.2.2.2.1 (drew_below wE), cell_stays HQ.out.2.2.2.2.1 (drew_below wE), cell_stays HQ.out.2.2.2.2.2.1 (drew_below wE), cell_stays HQ.out.2.2.2.2.2.2.1 (drew_below wE), cell_stays HQ.out.2.2.2.2.2.2.2.1 (drew_below wE), cell_stays HQ.out.2.2.2.2.2.2.2.2.1 (drew_below wE), cell_stays HQ.out.2.2.2.2.2.2.2.2.2.1 (drew_below wE), cell_stays HQ.out.2.2.2.2.2.2.2.2.2.2.1 (drew_below wE), cell_stays HQ.out.2.2.2.2.2.2.2.2.2.2.2.1 (drew_below wE), (HQ.out.2.2.2.2.2.2.2.2.2.2.2.2).trans ((drew_below wE).mono (HQ.out.2.2.2.2.2.2.2.2.2.2.2.2).size)⟩) (fun hHeld => ?_)
            try dsimp only at hHeld
            refine take_op (i := 0) (d := 39) (OP := Op.move (Operand.tmp 5)) (T := 22) (v := ?v10) rfl rfl rfl rfl (by kernel_rfl) (by kernel_rfl) (by kernel_rfl) (fun _ _ _ h => h) (by rfl) ?h10 hHeld ?r10
            case h10 => (intro w' hSw; (try dsimp only at hSw); go_simp <;> with_reducible rfl)
            try simp only [Act.put, sI, sZ, sS]
            refine take_op (i := 1) (d := 40) (OP := Op.move (Operand.tmp 9)) (T := 3) (v := ?v11) rfl rfl rfl rfl (by kernel_rfl) (by kernel_rfl) (by kernel_rfl) (fun _ _ _ h => h) (by rfl) ?h11 hHeld ?r11
            case h11 => (intro w' hSw; (try dsimp only at hSw); go_simp <;> with_reducible rfl)
            try simp only [Act.put, sI, sZ, sS]
            refine take_op (i := 2) (d := 41) (OP := Op.indexAddr 22 (Operand.tmp 39) (Operand.tmp 40)) (T := 0) (v := ?v12) rfl rfl rfl rfl (by kernel_rfl) (by kernel_rfl) (by kernel_rfl) (fun _ _ _ h => h) (by rfl) ?h12 hHeld ?r12
            case h12 => (intro w' hSw; (try dsimp only at hSw); go_simp <;> with_reducible rfl)
            try simp only [Act.put, sI, sZ, sS]
            refine take_op (i := 3) (d := 42) (OP := Op.fieldAddr 53 (Operand.tmp 41) 0) (T := 0) (v := ?v13) rfl rfl rfl rfl (by kernel_rfl) (by kernel_rfl) (by kernel_rfl) (fun _ _ _ h => h) (by rfl) ?h13 hHeld ?r13
            case h13 => (intro w' hSw; (try dsimp only at hSw); go_simp <;> with_reducible rfl)
            try simp only [Act.put, sI, sZ, sS]
            refine take_op (i := 4) (d := 43) (OP := Op.load 43 (Operand.tmp 42)) (T := 43) (v := ?v14) rfl rfl rfl rfl (by kernel_rfl) (by kernel_rfl) (by kernel_rfl) (fun _ _ _ h => h) (by rfl) ?h14 hHeld ?r14
            case h14 => (intro w' hSw; (try dsimp only at hSw); go_simp <;> with_reducible rfl)
            try simp only [Act.put, sI, sZ, sS]
            refine take_op (i := 5) (d := 44) (OP := Op.fieldAddr 53 (Operand.tmp 11) 0) (T := 0) (v := ?v15) rfl rfl rfl rfl (by kernel_rfl) (by kernel_rfl) (by kernel_rfl) (fun _ _ _ h => h) (by rfl) ?h15 hHeld ?r15
            case h15 => (intro w' hSw; (try dsimp only at hSw); go_simp <;> with_reducible rfl)
            try simp only [Act.put, sI, sZ, sS]
            refine take_op (i := 6) (d := 45) (OP := Op.load 43 (Operand.tmp 44)) (T := 43) (v := ?v16) rfl rfl rfl rfl (by kernel_rfl) (by kernel_rfl) (by kernel_rfl) (fun _ _ _ h => h) (by rfl) ?h16 hHeld ?r16
            case h16 => (intro w' hSw; (try dsimp only at hSw); go_simp <;> with_reducible rfl)
            try simp only [Act.put, sI, sZ, sS]
            refine call_op (i := 7) (d := 46) (OP := Op.call { callee := Callee.value (Operand.func 127), args := #[Operand.tmp 43, Operand.tmp 45], argTypes := #[43, 43] }) (T := 3) (f := 127) (args := #[.agg #[.int .i64 g1, .int .i64 r1, .string l1, .int .i64 n1, .int .i64 i1], .agg #[.int .i64 g, .int .i64 r, .string lb, .int .i64 n, .int .i64 ix]]) rfl rfl rfl rfl (by kernel_rfl) (by rfl) (by go_simp) ?_
            refine (hcm _).mono ?_
            rintro e zc ⟨rfl, bzc⟩
            have qz : zc.cell? ⟨Eb, 0, none⟩ = some (.int .i64 g) ∧ zc.cell? ⟨Eb, 1, none⟩ = some (.int .i64 r) ∧ zc.cell? ⟨Eb, 2, none⟩ = some (.string lb) ∧ zc.cell? ⟨Eb, 3, none⟩ = some (.int .i64 n) ∧ zc.cell? ⟨Eb, 4, none⟩ = some (.int .i64 ix) ∧ zc.cell? ⟨Eb, 5, none⟩ = some (.string X) ∧ zc.cell? ⟨ba, oa + f * 6, none⟩ = some (.int .i64 g1) ∧ zc.cell? ⟨ba, oa + f * 6 + 1, none⟩ = some (.int .i64 r1) ∧ zc.cell? ⟨ba, oa + f * 6 + 2, none⟩ = some (.string l1) ∧ zc.cell? ⟨ba, oa + f * 6 + 3, none⟩ = some (.int .i64 n1) ∧ zc.cell? ⟨ba, oa + f * 6 + 4, none⟩ = some (.int .i64 i1) ∧ zc.cell? ⟨ba, oa + f * 6 + 5, none⟩ = some (.string Y) ∧ Below wE.heap.size wE zc := ⟨cell_stays hHeld.1 bzc, cell_stays hHeld.2.1 bzc, cell_stays hHeld.2.2.1 bzc, cell_stays hHeld.2.2.2.1 bzc, cell_stays hHeld.2.2.2.2.1 bzc, cell_stays hHeld.2.2.2.2.2.1 bzc, cell_stays hHeld.2.2.2.2.2.2.1 bzc, cell_stays hHeld.2.2.2.2.2.2.2.1 bzc, cell_stays hHeld.2.2.2.2.2.2.2.2.1 bzc, cell_stays hHeld.2.2.2.2.2.2.2.2.2.1 bzc, cell_stays hHeld.2.2.2.2.2.2.2.2.2.2.1 bzc, cell_stays hHeld.2.2.2.2.2.2.2.2.2.2.2.1 bzc, (hHeld.2.2.2.2.2.2.2.2.2.2.2.2).trans (bzc.mono (hHeld.2.2.2.2.2.2.2.2.2.2.2.2).size)⟩
            refine ⟨_, rfl, qz, ?_⟩
            replace hHeld := qz
            clear qz bzc
            try simp only [Act.put, sI, sZ, sS]
            refine take_op (i := 8) (d := 47) (OP := Op.binOp BinOp.lss 3 (Operand.tmp 46) (Operand.const (Value.int IntKind.i64 0)) 3) (T := 4) (v := .bool false) rfl rfl rfl rfl (by kernel_rfl) (by kernel_rfl) (by kernel_rfl) (fun _ _ _ h => h) (by rfl) ?h17 hHeld ?r17
            case h17 => (intro w' hSw; (try dsimp only at hSw); go_simp <;> (first | with_reducible rfl | (simp; omega) | (simpa using hCB)))
            try simp only [Act.put, sI, sZ, sS]
            refine take_op (i := 9) (d := 34) (OP := Op.assign (Operand.tmp 47)) (T := 4) (v := ?v18) rfl rfl rfl rfl (by kernel_rfl) (by kernel_rfl) (by kernel_rfl) (fun _ _ _ h => h) (by rfl) ?h18 hHeld ?r18
            case h18 => (intro w' hSw; (try dsimp only at hSw); go_simp <;> with_reducible rfl)
            try simp only [Act.put, sI, sZ, sS]
            refine wpAnyH_done (by kernel_rfl) ?_ _
            obtain ⟨x0, x1, x2, x3, x4, x5, y0, y1, y2, y3, y4, y5, bzE⟩ := hHeld
            have HE := hide bzE
            clear bzE hcm HQ
            cases EQ with
            | false =>
              go_wp2
              go_quiet (fail)
              go_wp2
              go_roundw
              case rel => exact ⟨f, j + 1, by omega, by omega, by omega, rfl, by go_num, hide ⟨(by rw [HGO.out.1, if_neg HLW.out, if_neg (by simpa using HGO.out.2.1.symm)]), below_drw (HBW.out.trans (HE.out.mono HBW.out.size)) _⟩⟩
              case measure => simp [intOf]; omega
            | true =>
              go_wp2
              go_quiet (fail)
              go_wp2
              go_roundw
              case rel => exact ⟨f + 1, j + 1, by omega, by omega, by omega, by go_num, by go_num, hide ⟨(by rw [HGO.out.1, if_neg HLW.out, if_pos (by simpa using HGO.out.2.1.symm)]), below_drw (HBW.out.trans (HE.out.mono HBW.out.size)) _⟩⟩
              case measure => simp [intOf]; omega
      · obtain rfl : j = NY := by omega
        have d1 : decide ((j : Int) < (j : Int)) = false := by simp
        have hend : goP EX 0 EY = f := by rw [← HI.out.1, HN.out.2, List.drop_length, goP]
        have HEND := hide (And.intro hend HI.out.2)
        clear hend
        go_wp2
        try rw [Exit.noGoto_ret]
        go_ret
        exact ⟨by rw [HEND.out.1, ← beq_dec f NX]; simp, H2.out.2.2.trans (HEND.out.2.mono H2.out.2.2.size)⟩
end Go.Proofs.YtkkpdgfllnbigaaGreat.Jo
namespace Go.Proofs.YtkkpdgfllnbigaaGreat.Pm
open Go.RowKit Go.Shelf
set_option linter.unusedSimpArgs false

/-- Two trees share no node. -/
def Apart (o a : T) : Prop := ∀ q, o.atB q → a.atB q → False
theorem In.atB {W : World} : ∀ {t : T}, In W t → ∀ q, t.atB q → q < W.heap.size
  | .nil, _, _, h => h.elim
  | .node _ _ _ _ _, ⟨h1, h2, h3⟩, q, h => by
    rcases h with rfl | h | h
    · exact (gI h1).1
    · exact In.atB h2 q h
    · exact In.atB h3 q h
theorem Apart.symm {o a : T} (h : Apart o a) : Apart a o := fun q x y => h q y x
theorem Settled.atB {B : Nat} {k v l r t} (h : Settled B k v l r t) (q : Nat) (hq : t.atB q) : l.atB q ∨ r.atB q ∨ B ≤ q := by
  cases h with
  | plain h1 h2 hp =>
    rcases hq with rfl | h | h
    · exact .inr (.inr hp)
    · exact .inl h
    · exact .inr (.inl h)
  | rightIn h1 h2 hp hq' hs =>
    rcases hq with rfl | (rfl | h | h) | (rfl | h | h)
    · exact .inr (.inr hp)
    · exact .inr (.inr hq')
    · exact .inl (.inr (.inl h))
    · exact .inl (.inr (.inr (.inr (.inl h))))
    · exact .inr (.inr hs)
    · exact .inl (.inr (.inr (.inr (.inr h))))
    · exact .inr (.inl h)
  | rightOut h1 h2 hp hq' =>
    rcases hq with rfl | h | (rfl | h | h)
    · exact .inr (.inr hp)
    · exact .inl (.inr (.inl h))
    · exact .inr (.inr hq')
    · exact .inl (.inr (.inr h))
    · exact .inr (.inl h)
  | leftIn h1 h2 hp hq' hs =>
    rcases hq with rfl | (rfl | h | h) | (rfl | h | h)
    · exact .inr (.inr hp)
    · exact .inr (.inr hq')
    · exact .inl h
    · exact .inr (.inl (.inr (.inl (.inr (.inl h)))))
    · exact .inr (.inr hs)
    · exact .inr (.inl (.inr (.inl (.inr (.inr h)))))
    · exact .inr (.inl (.inr (.inr h)))
  | leftOut h1 h2 hp hq' =>
    rcases hq with rfl | (rfl | h | h) | h
    · exact .inr (.inr hp)
    · exact .inr (.inr hq')
    · exact .inl h
    · exact .inr (.inl (.inr (.inl h)))
    · exact .inr (.inl (.inr (.inr h)))
theorem Joined.atB {B : Nat} {k v l r t} (h : Joined B k v l r t) : ∀ q, t.atB q → l.atB q ∨ r.atB q ∨ B ≤ q := by
  induction h with
  | mid h1 h2 hp =>
    intro q hq
    rcases hq with rfl | h | h
    · exact .inr (.inr hp)
    · exact .inl h
    · exact .inr (.inl h)
  | left h1 hm hs ih =>
    intro q hq
    rcases hs.atB q hq with h | h | h
    · exact .inl (.inr (.inl h))
    · rcases ih q h with h | h | h
      · exact .inl (.inr (.inr h))
      · exact .inr (.inl h)
      · exact .inr (.inr h)
    · exact .inr (.inr h)
  | right h1 hm hs ih =>
    intro q hq
    rcases hs.atB q hq with h | h | h
    · rcases ih q h with h | h | h
      · exact .inl h
      · exact .inr (.inl (.inr (.inl h)))
      · exact .inr (.inr h)
    · exact .inr (.inl (.inr (.inr h)))
    · exact .inr (.inr h)
theorem Joins.atB {B p k v nl nr l r t} (h : Joins B p k v nl nr l r t) (q : Nat) (hq : t.atB q) : p = q ∨ l.atB q ∨ r.atB q ∨ B ≤ q := by
  rcases h with ⟨rfl, rfl, rfl⟩ | ⟨_, h⟩
  · rcases hq with h | h | h
    · exact .inl h
    · exact .inr (.inl h)
    · exact .inr (.inr (.inl h))
  · exact .inr (h.atB q hq)
theorem Splits.atB {B k t a f b} (h : Splits B k t a f b) : ∀ q, a.atB q ∨ b.atB q → t.atB q ∨ B ≤ q := by
  induction h with
  | none => intro q hq; rcases hq with h | h <;> exact h.elim
  | left hc _ hj ih =>
    intro q hq
    rcases hq with h | h
    · rcases ih q (.inl h) with h | h
      · exact .inl (.inr (.inl h))
      · exact .inr h
    · rcases hj.atB q h with h | h | h | h
      · exact .inl (.inl h)
      · rcases ih q (.inr h) with h | h
        · exact .inl (.inr (.inl h))
        · exact .inr h
      · exact .inl (.inr (.inr h))
      · exact .inr h
  | right hc _ hj ih =>
    intro q hq
    rcases hq with h | h
    · rcases hj.atB q h with h | h | h | h
      · exact .inl (.inl h)
      · exact .inl (.inr (.inl h))
      · rcases ih q (.inl h) with h | h
        · exact .inl (.inr (.inr h))
        · exact .inr h
      · exact .inr h
    · rcases ih q (.inr h) with h | h
      · exact .inl (.inr (.inr h))
      · exact .inr h
  | same hc =>
    intro q hq
    rcases hq with h | h
    · exact .inl (.inr (.inl h))
    · exact .inl (.inr (.inr h))
/-- What a rule must answer of trees that lie apart. -/
structure FairA (V : ByteArray → ByteArray × Bool → Prop) (R : ByteArray → ByteArray × Bool → ByteArray × Bool → ByteArray × Bool → ByteArray × Bool) : Prop where
  none : ∀ k, V k (⟨#[]⟩, false)
  both : ∀ k p q, V k p → V k q → R k p q q = q
  left0 : ∀ k r, V k r → R k (⟨#[]⟩, false) (⟨#[]⟩, false) r = r
  right : ∀ k p q, V k p → V k q → R k p q p = q
  norm : ∀ k p q r, (R k p q r).2 = false → R k p q r = (⟨#[]⟩, false)
/-- Three maps run together by a rule, the base apart from the first side. -/
inductive RunsA (B : Nat) (R : ByteArray → ByteArray × Bool → ByteArray × Bool → ByteArray × Bool → ByteArray × Bool) : T → T → T → T → List ByteArray → Prop where
  | same {o a : T} : RunsA B R o a a a []
  | left {b : T} (h : .nil ≠ b) : RunsA B R .nil .nil b b []
  | right {o a : T} (h : a ≠ o) : RunsA B R o a o a []
  | joins {o a b o1 o2 f a1 a2 g b1 b2 h t1 t2 t : T} {ks1 ks2 : List ByteArray} {v : ByteArray} (n1 : a ≠ b) (n2 : o ≠ a) (n3 : o ≠ b) (so : Splits B (topK a b) o o1 f o2) (sa : Splits B (topK a b) a a1 g a2) (sb : Splits B (topK a b) b b1 h b2)
      (r1 : RunsA B R o1 a1 b1 t1 ks1) (r2 : RunsA B R o2 a2 b2 t2 ks2) (hr : R (topK a b) f.part g.part h.part = (v, true)) (hj : Joined B (topK a b) v t1 t2 t) : RunsA B R o a b t (ks1 ++ ks2 ++ [topK a b])
  | closes {o a b o1 o2 f a1 a2 g b1 b2 h t1 t2 t : T} {ks1 ks2 : List ByteArray} {v : ByteArray} (n1 : a ≠ b) (n2 : o ≠ a) (n3 : o ≠ b) (so : Splits B (topK a b) o o1 f o2) (sa : Splits B (topK a b) a a1 g a2) (sb : Splits B (topK a b) b b1 h b2)
      (r1 : RunsA B R o1 a1 b1 t1 ks1) (r2 : RunsA B R o2 a2 b2 t2 ks2) (hr : R (topK a b) f.part g.part h.part = (v, false)) (hj : Closes B t1 t2 t) (hb : t1.bal → t2.bal → t.bal) : RunsA B R o a b t (ks1 ++ ks2 ++ [topK a b])
theorem RunsA.says {B : Nat} {V : ByteArray → ByteArray × Bool → Prop} {R : ByteArray → ByteArray × Bool → ByteArray × Bool → ByteArray × Bool → ByteArray × Bool} (hR : FairA V R) {o a b t : T} {ks : List ByteArray} (h : RunsA B R o a b t ks) :
    Srt o.list → Srt a.list → Srt b.list → o.bal → a.bal → b.bal → (∀ k, V k (look k o.list)) → (∀ k, V k (look k a.list)) → (∀ k, V k (look k b.list)) → RunSays R o a b t ks := by
  induction h with
  | @same o a =>
    intro so sa _ _ ba _ vo va _
    exact ⟨ba, sa, fun k => (hR.both k _ _ (vo k) (va k)).symm, fun y hy => .inl ⟨y, hy, rfl⟩, by simp, List.nodup_nil, by simp, by omega⟩
  | @left b hne =>
    intro so _ sb _ _ bb vo _ vb
    exact ⟨bb, sb, fun k => (hR.left0 k _ (vb k)).symm, fun y hy => .inr ⟨y, hy, rfl⟩, by simp, List.nodup_nil, by simp, by omega⟩
  | @right o a hne =>
    intro so sa _ _ ba _ vo va _
    exact ⟨ba, sa, fun k => (hR.right k _ _ (vo k) (va k)).symm, fun y hy => .inl ⟨y, hy, rfl⟩, by simp, List.nodup_nil, by simp, by omega⟩
  | @joins o a b o1 o2 f a1 a2 g b1 b2 h t1 t2 t ks1 ks2 v n1 n2 n3 so sa sb r1 r2 hr hj ih1 ih2 =>
    intro So Sa Sb Bo Ba Bb Vo Va Vb
    obtain ⟨vo1, vo2⟩ := (so.sides So).valid hR.none Vo
    obtain ⟨va1, va2⟩ := (sa.sides Sa).valid hR.none Va
    obtain ⟨vb1, vb2⟩ := (sb.sides Sb).valid hR.none Vb
    have i1 := ih1 (so.sides So).asrt (sa.sides Sa).asrt (sb.sides Sb).asrt (so.bal Bo).1 (sa.bal Ba).1 (sb.bal Bb).1 vo1 va1 vb1
    have i2 := ih2 (so.sides So).bsrt (sa.sides Sa).bsrt (sb.sides Sb).bsrt (so.bal Bo).2 (sa.bal Ba).2 (sb.bal Bb).2 vo2 va2 vb2
    have m := Runs.mid n1 so sa sb So Sa Sb i1 i2
    have hl : t.list = t1.list ++ (topK a b, v) :: t2.list := hj.list
    obtain ⟨q1, q2, q3⟩ := look_mid (v := v) m.less m.more
    refine ⟨(hj.says m.b1 m.b2).bal, by rw [hl]; exact Srt.app.2 ⟨m.s1, m.s2, m.less, m.more⟩, fun k => ?_, fun y hy => ?_, m.asked, m.once, m.few, ?_⟩
    · rw [hl]
      rcases cmp_three k (topK a b) with e | e | e
      · rw [q2 k e, m.lookL k e]
      · rw [e, q1, ← m.lookM, hr]
      · rw [q3 k e, m.lookR k e]
    · rw [hl] at hy
      rcases List.mem_append.1 hy with hy | hy
      · exact m.keys1 y hy
      · rcases List.mem_cons.1 hy with rfl | hy
        · exact m.key
        · exact m.keys2 y hy
    · have := congrArg List.length hl
      simp only [List.length_append, List.length_cons, T.n_eq] at this
      have := m.tn
      omega
  | @closes o a b o1 o2 f a1 a2 g b1 b2 h t1 t2 t ks1 ks2 v n1 n2 n3 so sa sb r1 r2 hr hj hb ih1 ih2 =>
    intro So Sa Sb Bo Ba Bb Vo Va Vb
    obtain ⟨vo1, vo2⟩ := (so.sides So).valid hR.none Vo
    obtain ⟨va1, va2⟩ := (sa.sides Sa).valid hR.none Va
    obtain ⟨vb1, vb2⟩ := (sb.sides Sb).valid hR.none Vb
    have i1 := ih1 (so.sides So).asrt (sa.sides Sa).asrt (sb.sides Sb).asrt (so.bal Bo).1 (sa.bal Ba).1 (sb.bal Bb).1 vo1 va1 vb1
    have i2 := ih2 (so.sides So).bsrt (sa.sides Sa).bsrt (sb.sides Sb).bsrt (so.bal Bo).2 (sa.bal Ba).2 (sb.bal Bb).2 vo2 va2 vb2
    have m := Runs.mid n1 so sa sb So Sa Sb i1 i2
    have hl : t.list = t1.list ++ t2.list := hj.list m.s2
    obtain ⟨q1, q2, q3⟩ := look_two m.less m.more
    refine ⟨hb m.b1 m.b2, ?_, fun k => ?_, fun y hy => ?_, m.asked, m.once, m.few, ?_⟩
    · rw [hl]
      exact List.pairwise_append.2 ⟨m.s1, m.s2, fun x hx y hy => ord_B.trans _ _ _ (m.less x hx) (m.more y hy)⟩
    · rw [hl]
      rcases cmp_three k (topK a b) with e | e | e
      · rw [q2 k e, m.lookL k e]
      · rw [e, q1, ← m.lookM]
        exact (hR.norm _ _ _ _ (by rw [hr])).symm
      · rw [q3 k e, m.lookR k e]
    · rw [hl] at hy
      rcases List.mem_append.1 hy with hy | hy
      · exact m.keys1 y hy
      · exact m.keys2 y hy
    · have := congrArg List.length hl
      simp only [List.length_append, T.n_eq] at this
      have := m.tn
      omega
theorem RunsA.mono {B B' : Nat} {R : ByteArray → ByteArray × Bool → ByteArray × Bool → ByteArray × Bool → ByteArray × Bool} {o a b t : T} {ks : List ByteArray} (h : RunsA B' R o a b t ks) (hB : B ≤ B') : RunsA B R o a b t ks := by
  induction h with
  | same => exact .same
  | left h => exact .left h
  | right h => exact .right h
  | joins n1 n2 n3 so sa sb _ _ hr hj ih1 ih2 => exact .joins n1 n2 n3 (so.mono hB) (sa.mono hB) (sb.mono hB) ih1 ih2 hr (hj.mono hB)
  | closes n1 n2 n3 so sa sb _ _ hr hj hb ih1 ih2 => exact .closes n1 n2 n3 (so.mono hB) (sa.mono hB) (sb.mono hB) ih1 ih2 hr (hj.mono hB) hb
/-- What is cut of one, beside what was cut of another before it. -/
def CutA (B : Nat) (K : ByteArray) (o a : T) (v2 v : Value) (W : World) : Prop := ∃ o1 f o2 a1 g a2, v2 = cv o1 o2 f ∧ v = cv a1 a2 g ∧ Splits B K o o1 f o2 ∧ In W o1 ∧ In W o2 ∧ Splits B K a a1 g a2 ∧ In W a1 ∧ In W a2 ∧ Apart o1 a1 ∧ Apart o2 a2
theorem CutA.below {B : Nat} {K : ByteArray} {o a : T} {v2 v : Value} {W W' : World} (h : CutA B K o a v2 v W) (hb : Below W.heap.size W W') : CutA B K o a v2 v W' := by
  obtain ⟨o1, f, o2, a1, g, a2, e1, e2, so, i1, i2, sa, i3, i4, p1, p2⟩ := h
  exact ⟨o1, f, o2, a1, g, a2, e1, e2, so, In.below hb i1, In.below hb i2, sa, In.below hb i3, In.below hb i4, p1, p2⟩
/-- What is cut of the first. -/
def CutO (m : Nat) (K : ByteArray) (o : T) (v : Value) (W : World) : Prop := ∃ o1 f o2 B0 W1, v = cv o1 o2 f ∧ Splits B0 K o o1 f o2 ∧ m ≤ B0 ∧ In W1 o1 ∧ In W1 o2 ∧ Below W1.heap.size W1 W
theorem CutO.below {m : Nat} {K : ByteArray} {o : T} {v : Value} {W W' : World} (h : CutO m K o v W) (hb : Below W.heap.size W W') : CutO m K o v W' := by
  obtain ⟨o1, f, o2, B0, W1, e, so, hm, i1, i2, hW⟩ := h
  exact ⟨o1, f, o2, B0, W1, e, so, hm, i1, i2, hW.trans (hb.mono hW.size)⟩
end Go.Proofs.YtkkpdgfllnbigaaGreat.Pm
namespace Go.Proofs.YtkkpdgfllnbigaaGreat.Pm
open Go.RowKit Go.Shelf
set_option linter.unusedSimpArgs false
end Go.Proofs.YtkkpdgfllnbigaaGreat.Pm
namespace Go.Proofs.YtkkpdgfllnbigaaGreat.Pm
open Go.RowKit Go.Shelf
set_option linter.unusedSimpArgs false
end Go.Proofs.YtkkpdgfllnbigaaGreat.Pm
namespace Go.Proofs.YtkkpdgfllnbigaaGreat.Pm
open Go.RowKit Go.Shelf
set_option linter.unusedSimpArgs false
end Go.Proofs.YtkkpdgfllnbigaaGreat.Pm
namespace Go.Proofs.YtkkpdgfllnbigaaGreat.Pm
open Go.RowKit Go.Shelf
set_option linter.unusedSimpArgs false
end Go.Proofs.YtkkpdgfllnbigaaGreat.Pm
namespace Go.Proofs.YtkkpdgfllnbigaaGreat
open Go.RowKit Go.Shelf

end Go.Proofs.YtkkpdgfllnbigaaGreat
namespace Go.Proofs.YtkkpdgfllnbigaaGreat.Jo
open Go.RowKit Go.Shelf

theorem ne_of_low {x y : El} (h : cmpT x.1 y.1 = -1) : x ≠ y := fun e => by
  rw [e, ordS_T.refl] at h
  omega
theorem goP_iff {l : List El} (ul : UpS l) : ∀ {m : List El}, UpS m → ∀ f, f ≤ l.length → (goP l f m = l.length ↔ ∀ x ∈ l.drop f, x ∈ m)
  | [], _, f, hf => by
    rw [goP]
    constructor
    · intro h x hx
      rw [h, List.drop_length] at hx
      cases hx
    · intro h
      by_cases hlt : f < l.length
      · obtain ⟨y, hy⟩ : ∃ y, l[f]? = some y := ⟨_, List.getElem?_eq_getElem hlt⟩
        have := h y (by rw [drop_cons' hy]; exact List.mem_cons_self)
        cases this
      · omega
  | x :: m, um, f, hf => by
    obtain ⟨u1, u2⟩ := List.pairwise_cons.1 um
    rw [goP]
    cases hy : l[f]? with
    | none =>
      have : l.length ≤ f := List.getElem?_eq_none_iff.1 hy
      constructor
      · intro _ z hz
        rw [List.drop_of_length_le this] at hz
        cases hz
      · intro _; show f = l.length; omega
    | some y =>
      have hlt : f < l.length := (List.getElem?_eq_some_iff.1 hy).1
      have hd := drop_cons' hy
      have hnext : ∀ z ∈ l.drop (f + 1), cmpT y.1 z.1 = -1 := fun z hz => up_next ul hy hz
      show (if cmpT y.1 x.1 = -1 then f else if y = x then goP l (f + 1) m else goP l f m) = l.length ↔ _
      by_cases hc : cmpT y.1 x.1 = -1
      · rw [if_pos hc]
        constructor
        · intro h; omega
        · intro h
          have h1 := h y (by rw [hd]; exact List.mem_cons_self)
          rcases List.mem_cons.1 h1 with e | e
          · exact absurd e (ne_of_low hc)
          · have h2 := u1 y e
            have := ordS_T.anti y.1 x.1
            omega
      · rw [if_neg hc]
        by_cases he : y = x
        · rw [if_pos he, goP_iff ul u2 (f + 1) (by omega), hd]
          constructor
          · intro h z hz
            rcases List.mem_cons.1 hz with e | e
            · rw [e, he]; exact List.mem_cons_self
            · exact List.mem_cons_of_mem _ (h z e)
          · intro h z hz
            rcases List.mem_cons.1 (h z (List.mem_cons_of_mem _ hz)) with e | e
            · have := hnext z hz
              rw [e, ← he, ordS_T.refl] at this
              omega
            · exact e
        · rw [if_neg he, goP_iff ul u2 f hf]
          constructor
          · exact fun h z hz => List.mem_cons_of_mem _ (h z hz)
          · intro h z hz
            rcases List.mem_cons.1 (h z hz) with e | e
            · rw [hd] at hz
              rcases List.mem_cons.1 hz with e2 | e2
              · exact absurd (e2.symm.trans e) he
              · have := hnext z e2
                rw [e] at this
                exact absurd this hc
            · exact e
theorem partF_iff {l m : List El} (ul : UpS l) (um : UpS m) : partF l m = true ↔ ∀ x ∈ l, x ∈ m := by
  unfold partF
  rw [decide_eq_true_eq, goP_iff ul um 0 (Nat.zero_le _), List.drop_zero]
end Go.Proofs.YtkkpdgfllnbigaaGreat.Jo
