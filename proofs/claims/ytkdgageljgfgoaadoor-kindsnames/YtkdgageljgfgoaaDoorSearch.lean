/-
  slices.BinarySearchFunc 98 with cmpStamp; kinds: stands 88.
-/
import Derived.Test.YtkdgageljgfgoaaDoorApply
namespace Go.Proofs.YtkdgageljgfgoaaDoor
open Go.RowKit Go.Shelf
set_option linter.unusedSimpArgs false
attribute [local go_sem] Oper.semAt_some

/-- Rising elements. -/
def Rise (l : List El) : Prop := ∀ (i j : Nat) (x y : El), i < j → l[i]? = some x → l[j]? = some y → cmpT x.1 y.1 = -1
/-- Is there an element with this stamp? -/
def standsB (s : St) (l : List El) : Bool := l.any fun x => decide (x.1 = s)

/-- What a search hands back. -/
def FoundE (w : World) (R : Bool) (e : Ending) (w' : World) : Prop := ∃ p : Int, e = .returned (.tuple #[.int .i64 p, .bool R]) ∧ Below w.heap.size w w'
set_option maxHeartbeats 4000000 in
set_option maxRecDepth 100000 in
theorem search_any {w : World} (s : St) {ao : Option Addr} {c : Nat} {l : List El} (h : Re w ao l) (hl : l.length ≤ 1000000) (hr : Rise l) : Calls Tryd.prog 63 #[.slice ao l.length c, svT s, .func (.func 44) #[] #[]] w (FoundE w (standsB s l)) := by
  obtain ⟨N, hN⟩ : ∃ N, N = l.length := ⟨_, rfl⟩
  obtain ⟨R, hR⟩ : ∃ R, R = standsB s l := ⟨_, rfl⟩
  rw [← hN, ← hR]
  rw [← hN] at hl
  have H := hide (And.intro hN (And.intro hR (And.intro h hr)))
  clear hN hR h hr
  obtain ⟨g, r, l0, n0, i0⟩ := s
  obtain ⟨w1, hw1⟩ : ∃ w1, w1 = w.alloc (.cells #[.int .i64 g, .int .i64 r, .string l0, .int .i64 n0, .int .i64 i0] 46) := ⟨_, rfl⟩
  have b1 : Below w.heap.size w w1 := by rw [hw1]; exact (Below.refl _ w).alloc (Nat.le_refl _) _
  have m0 := heap_alloc_new w (.cells #[.int .i64 g, .int .i64 r, .string l0, .int .i64 n0, .int .i64 i0] 46)
  rw [← hw1] at m0
  have HM := hide (And.intro m0 (And.intro b1 hw1))
  clear m0 b1
  go_enter Tryd.func63, Tryd.ntmps63
  go_upto_region 1 with fail
  obtain ⟨B, hB⟩ : ∃ B, B = w.heap.size := ⟨_, rfl⟩
  rw [← hw1, ← hB]
  have HB := hide hB
  clear hw1 hB
  go_wp2
  go_loopw [9, 10] (fun iv jv wr => ∃ i j : Nat, i ≤ j ∧ j ≤ N ∧ iv = .int .i64 i ∧ jv = .int .i64 j ∧ Hid ((∀ q x, q < i → l[q]? = some x → cmpT x.1 (g, r, l0, n0, i0) < 0) ∧ (∀ q x, j ≤ q → l[q]? = some x → ¬ cmpT x.1 (g, r, l0, n0, i0) < 0) ∧ Below w1.heap.size w1 wr)) (fun iv jv _ => (intOf jv - intOf iv).toNat)
  case atStart => exact ⟨0, N, Nat.zero_le _, Nat.le_refl _, rfl, rfl, hide ⟨fun q x hq => by omega, fun q x hq hx => by have := (List.getElem?_eq_some_iff.1 hx).1; have := H.out.1; omega, Below.refl _ _⟩⟩
  case round =>
    obtain ⟨i, j, hij, hj, rfl, rfl, hP⟩ := hrel
    by_cases hlt : i < j
    · have d1 : (i : Int) < (j : Int) := by omega
      obtain ⟨m, hm⟩ : ∃ m, m = (i + j) / 2 := ⟨_, rfl⟩
      have hmi : i ≤ m ∧ m < j := by omega
      have hmd : ((i : Int) + (j : Int)) / 2 = (m : Int) := by omega
      have wr1 : wrap64 ((i : Int) + (j : Int)) = (i : Int) + (j : Int) := by unfold wrap64; omega
      have hmN : m < N := by omega
      obtain ⟨x, hx⟩ : ∃ x, l[m]? = some x := ⟨_, List.getElem?_eq_getElem (by rw [← H.out.1]; exact hmN)⟩
      have hbw : Below w.heap.size w wr := HM.out.2.1.trans (hP.out.2.2.mono HM.out.2.1.size)
      obtain ⟨b, off, hao, q0, q1, q2, q3, q4, q5⟩ := (H.out.2.2.1.below hbw).cells hx
      have hrow := (hP.out.2.2.block _ (Array.getElem?_eq_some_iff.1 HM.out.1).1).trans HM.out.1
      obtain ⟨p0, p1, p2, p3, p4, _⟩ := blk5 hrow
      have kc := fun W => cmpStamp_grow x (g, r, l0, n0, i0) W
      obtain ⟨cv, hcv⟩ : ∃ cv, cv = cmpT x.1 (g, r, l0, n0, i0) := ⟨_, rfl⟩
      simp only [← hcv] at kc
      have HX := hide (And.intro hx hcv)
      obtain ⟨⟨g', r', l', n', i'⟩, t'⟩ := x
      dsimp only at q0 q1 q2 q3 q4 q5 kc
      have d2 : (m : Int) < (N : Int) := by omega
      rw [← HB.out] at p0 p1 p2 p3 p4
      have HBW := hide hbw
      have hS : wr.cell? ⟨B, 0, none⟩ = some (.int .i64 g) ∧ wr.cell? ⟨B, 1, none⟩ = some (.int .i64 r) ∧ wr.cell? ⟨B, 2, none⟩ = some (.string l0) ∧ wr.cell? ⟨B, 3, none⟩ = some (.int .i64 n0) ∧ wr.cell? ⟨B, 4, none⟩ = some (.int .i64 i0) ∧ wr.cell? ⟨b, off + m * 6, none⟩ = some (.int .i64 g') ∧ wr.cell? ⟨b, off + m * 6 + 1, none⟩ = some (.int .i64 r') ∧ wr.cell? ⟨b, off + m * 6 + 2, none⟩ = some (.string l') ∧ wr.cell? ⟨b, off + m * 6 + 3, none⟩ = some (.int .i64 n') ∧ wr.cell? ⟨b, off + m * 6 + 4, none⟩ = some (.int .i64 i') ∧ wr.cell? ⟨b, off + m * 6 + 5, none⟩ = some (.string t') := ⟨p0, p1, p2, p3, p4, q0, q1, q2, q3, q4, q5⟩
      subst hao
      clear hx hcv hbw hrow p0 p1 p2 p3 p4 q0 q1 q2 q3 q4 q5
      clear hm
      go_upto_region 5 with fail
      try rw [hmd]
      clear hmd wr1
      by_cases hc : cv < 0
      · skip
        have qd : wr.drew.cell? ⟨B, 0, none⟩ = some (.int .i64 g) ∧ wr.drew.cell? ⟨B, 1, none⟩ = some (.int .i64 r) ∧ wr.drew.cell? ⟨B, 2, none⟩ = some (.string l0) ∧ wr.drew.cell? ⟨B, 3, none⟩ = some (.int .i64 n0) ∧ wr.drew.cell? ⟨B, 4, none⟩ = some (.int .i64 i0) ∧ wr.drew.cell? ⟨b, off + m * 6, none⟩ = some (.int .i64 g') ∧ wr.drew.cell? ⟨b, off + m * 6 + 1, none⟩ = some (.int .i64 r') ∧ wr.drew.cell? ⟨b, off + m * 6 + 2, none⟩ = some (.string l') ∧ wr.drew.cell? ⟨b, off + m * 6 + 3, none⟩ = some (.int .i64 n') ∧ wr.drew.cell? ⟨b, off + m * 6 + 4, none⟩ = some (.int .i64 i') ∧ wr.drew.cell? ⟨b, off + m * 6 + 5, none⟩ = some (.string t') := keepC11 hS (drew_below wr)
        refine wp_region_held_drew (S := (fun w' => w'.cell? ⟨B, 0, none⟩ = some (.int .i64 g) ∧ w'.cell? ⟨B, 1, none⟩ = some (.int .i64 r) ∧ w'.cell? ⟨B, 2, none⟩ = some (.string l0) ∧ w'.cell? ⟨B, 3, none⟩ = some (.int .i64 n0) ∧ w'.cell? ⟨B, 4, none⟩ = some (.int .i64 i0) ∧ w'.cell? ⟨b, off + m * 6, none⟩ = some (.int .i64 g') ∧ w'.cell? ⟨b, off + m * 6 + 1, none⟩ = some (.int .i64 r') ∧ w'.cell? ⟨b, off + m * 6 + 2, none⟩ = some (.string l') ∧ w'.cell? ⟨b, off + m * 6 + 3, none⟩ = some (.int .i64 n') ∧ w'.cell? ⟨b, off + m * 6 + 4, none⟩ = some (.int .i64 i') ∧ w'.cell? ⟨b, off + m * 6 + 5, none⟩ = some (.string t'))) (by kernel_rfl) qd (fun hHeld => ?_)
        try dsimp only at hHeld
        refine take_op (i := 0) (d := 24) (OP := Op.move (Operand.tmp 2)) (T := 88) (v := ?vzz1) rfl rfl rfl rfl (by kernel_rfl) (by kernel_rfl) (by kernel_rfl) (fun _ _ _ h => h) (by rfl) ?hzz1 hHeld ?rzz1
        case hzz1 => (intro w' hSw; (try dsimp only at hSw); go_simp <;> with_reducible rfl)
        try simp only [Act.put, List.setIfInBounds_toArray, List.set_cons_zero, List.set_cons_succ]
        refine take_op (i := 1) (d := 25) (OP := Op.move (Operand.tmp 0)) (T := 28) (v := ?vzz2) rfl rfl rfl rfl (by kernel_rfl) (by kernel_rfl) (by kernel_rfl) (fun _ _ _ h => h) (by rfl) ?hzz2 hHeld ?rzz2
        case hzz2 => (intro w' hSw; (try dsimp only at hSw); go_simp <;> with_reducible rfl)
        try simp only [Act.put, List.setIfInBounds_toArray, List.set_cons_zero, List.set_cons_succ]
        refine take_op (i := 2) (d := 26) (OP := Op.move (Operand.tmp 11)) (T := 3) (v := ?vzz3) rfl rfl rfl rfl (by kernel_rfl) (by kernel_rfl) (by kernel_rfl) (fun _ _ _ h => h) (by rfl) ?hzz3 hHeld ?rzz3
        case hzz3 => (intro w' hSw; (try dsimp only at hSw); go_simp <;> with_reducible rfl)
        try simp only [Act.put, List.setIfInBounds_toArray, List.set_cons_zero, List.set_cons_succ]
        refine take_op (i := 3) (d := 27) (OP := Op.indexAddr 28 (Operand.tmp 25) (Operand.tmp 26)) (T := 0) (v := ?vzz4) rfl rfl rfl rfl (by kernel_rfl) (by kernel_rfl) (by kernel_rfl) (fun _ _ _ h => h) (by rfl) ?hzz4 hHeld ?rzz4
        case hzz4 => (intro w' hSw; (try dsimp only at hSw); go_simp <;> with_reducible rfl)
        try simp only [Act.put, List.setIfInBounds_toArray, List.set_cons_zero, List.set_cons_succ]
        refine take_op (i := 4) (d := 28) (OP := Op.load 58 (Operand.tmp 27)) (T := 58) (v := ?vzz5) rfl rfl rfl rfl (by kernel_rfl) (by kernel_rfl) (by kernel_rfl) (fun _ _ _ h => h) (by rfl) ?hzz5 hHeld ?rzz5
        case hzz5 => (intro w' hSw; (try dsimp only at hSw); go_simp <;> with_reducible rfl)
        try simp only [Act.put, List.setIfInBounds_toArray, List.set_cons_zero, List.set_cons_succ]
        refine take_op (i := 5) (d := 29) (OP := Op.load 46 (Operand.tmp 4)) (T := 46) (v := ?vzz6) rfl rfl rfl rfl (by kernel_rfl) (by kernel_rfl) (by kernel_rfl) (fun _ _ _ h => h) (by rfl) ?hzz6 hHeld ?rzz6
        case hzz6 => (intro w' hSw; (try dsimp only at hSw); go_simp <;> with_reducible rfl)
        try simp only [Act.put, List.setIfInBounds_toArray, List.set_cons_zero, List.set_cons_succ]
        refine call_op (i := 6) (d := 30) (OP := Op.call { callee := Callee.value (Operand.tmp 24), args := #[Operand.tmp 28, Operand.tmp 29], argTypes := #[58, 46] }) (T := 3) (f := 44) (args := #[.agg #[.int .i64 g', .int .i64 r', .string l', .int .i64 n', .int .i64 i', .string t'], .agg #[.int .i64 g, .int .i64 r, .string l0, .int .i64 n0, .int .i64 i0]]) rfl rfl rfl rfl (by kernel_rfl) (by rfl) (by go_simp) ?_
        refine (kc _).mono ?_
        rintro e z ⟨rfl, bz0⟩
        have bz := bz0.low
        have qz : z.cell? ⟨B, 0, none⟩ = some (.int .i64 g) ∧ z.cell? ⟨B, 1, none⟩ = some (.int .i64 r) ∧ z.cell? ⟨B, 2, none⟩ = some (.string l0) ∧ z.cell? ⟨B, 3, none⟩ = some (.int .i64 n0) ∧ z.cell? ⟨B, 4, none⟩ = some (.int .i64 i0) ∧ z.cell? ⟨b, off + m * 6, none⟩ = some (.int .i64 g') ∧ z.cell? ⟨b, off + m * 6 + 1, none⟩ = some (.int .i64 r') ∧ z.cell? ⟨b, off + m * 6 + 2, none⟩ = some (.string l') ∧ z.cell? ⟨b, off + m * 6 + 3, none⟩ = some (.int .i64 n') ∧ z.cell? ⟨b, off + m * 6 + 4, none⟩ = some (.int .i64 i') ∧ z.cell? ⟨b, off + m * 6 + 5, none⟩ = some (.string t') := ⟨cell_stays hHeld.1 bz, cell_stays hHeld.2.1 bz, cell_stays hHeld.2.2.1 bz, cell_stays hHeld.2.2.2.1 bz, cell_stays hHeld.2.2.2.2.1 bz, cell_stays hHeld.2.2.2.2.2.1 bz, cell_stays hHeld.2.2.2.2.2.2.1 bz, cell_stays hHeld.2.2.2.2.2.2.2.1 bz, cell_stays hHeld.2.2.2.2.2.2.2.2.1 bz, cell_stays hHeld.2.2.2.2.2.2.2.2.2.1 bz, cell_stays hHeld.2.2.2.2.2.2.2.2.2.2 bz⟩
        refine ⟨_, rfl, qz, ?_⟩
        replace hHeld := qz
        have HZ := hide bz
        clear bz bz0 qz
        try simp only [Act.put, List.setIfInBounds_toArray, List.set_cons_zero, List.set_cons_succ]
        refine take_op (i := 7) (d := 31) (OP := Op.binOp BinOp.lss 3 (Operand.tmp 30) (Operand.const (Value.int IntKind.i64 0)) 3) (T := 4) (v := ?vzz7) rfl rfl rfl rfl (by kernel_rfl) (by kernel_rfl) (by kernel_rfl) (fun _ _ _ h => h) (by rfl) ?hzz7 hHeld ?rzz7
        case hzz7 => (intro w' hSw; (try dsimp only at hSw); go_simp <;> with_reducible rfl)
        try simp only [Act.put, List.setIfInBounds_toArray, List.set_cons_zero, List.set_cons_succ]
        refine wpAnyH_done (by kernel_rfl) ?_ _
        have bz' := hP.out.2.2.trans (((drew_below wr).trans HZ.out).mono hP.out.2.2.size)
        have HBZ := hide bz'
        clear bz' hHeld qd hS
        go_wp2
        go_roundw
        case rel =>
          refine ⟨m + 1, j, by omega, hj, by go_num, rfl, hide ⟨fun q y hq hy => ?_, hP.out.2.1, HBZ.out⟩⟩
          by_cases hqm : q = m
          · subst hqm
            rw [HX.out.1] at hy
            cases hy
            rw [← HX.out.2]; exact hc
          · have h1 := H.out.2.2.2 q m y _ (by omega) hy HX.out.1
            have h2 : cmpT ((g', r', l', n', i') : St) (g, r, l0, n0, i0) = -1 := by
              have h3 := ord_T.range ((g', r', l', n', i') : St) (g, r, l0, n0, i0)
              have h4 := HX.out.2
              dsimp only at h4
              rw [← h4] at h3 ⊢
              omega
            rw [ord_T.trans _ _ _ h1 h2]; decide
        case measure => simp [intOf]; omega
      · skip
        have qd : wr.drew.cell? ⟨B, 0, none⟩ = some (.int .i64 g) ∧ wr.drew.cell? ⟨B, 1, none⟩ = some (.int .i64 r) ∧ wr.drew.cell? ⟨B, 2, none⟩ = some (.string l0) ∧ wr.drew.cell? ⟨B, 3, none⟩ = some (.int .i64 n0) ∧ wr.drew.cell? ⟨B, 4, none⟩ = some (.int .i64 i0) ∧ wr.drew.cell? ⟨b, off + m * 6, none⟩ = some (.int .i64 g') ∧ wr.drew.cell? ⟨b, off + m * 6 + 1, none⟩ = some (.int .i64 r') ∧ wr.drew.cell? ⟨b, off + m * 6 + 2, none⟩ = some (.string l') ∧ wr.drew.cell? ⟨b, off + m * 6 + 3, none⟩ = some (.int .i64 n') ∧ wr.drew.cell? ⟨b, off + m * 6 + 4, none⟩ = some (.int .i64 i') ∧ wr.drew.cell? ⟨b, off + m * 6 + 5, none⟩ = some (.string t') := keepC11 hS (drew_below wr)
        refine wp_region_held_drew (S := (fun w' => w'.cell? ⟨B, 0, none⟩ = some (.int .i64 g) ∧ w'.cell? ⟨B, 1, none⟩ = some (.int .i64 r) ∧ w'.cell? ⟨B, 2, none⟩ = some (.string l0) ∧ w'.cell? ⟨B, 3, none⟩ = some (.int .i64 n0) ∧ w'.cell? ⟨B, 4, none⟩ = some (.int .i64 i0) ∧ w'.cell? ⟨b, off + m * 6, none⟩ = some (.int .i64 g') ∧ w'.cell? ⟨b, off + m * 6 + 1, none⟩ = some (.int .i64 r') ∧ w'.cell? ⟨b, off + m * 6 + 2, none⟩ = some (.string l') ∧ w'.cell? ⟨b, off + m * 6 + 3, none⟩ = some (.int .i64 n') ∧ w'.cell? ⟨b, off + m * 6 + 4, none⟩ = some (.int .i64 i') ∧ w'.cell? ⟨b, off + m * 6 + 5, none⟩ = some (.string t'))) (by kernel_rfl) qd (fun hHeld => ?_)
        try dsimp only at hHeld
        refine take_op (i := 0) (d := 24) (OP := Op.move (Operand.tmp 2)) (T := 88) (v := ?vzz8) rfl rfl rfl rfl (by kernel_rfl) (by kernel_rfl) (by kernel_rfl) (fun _ _ _ h => h) (by rfl) ?hzz8 hHeld ?rzz8
        case hzz8 => (intro w' hSw; (try dsimp only at hSw); go_simp <;> with_reducible rfl)
        try simp only [Act.put, List.setIfInBounds_toArray, List.set_cons_zero, List.set_cons_succ]
        refine take_op (i := 1) (d := 25) (OP := Op.move (Operand.tmp 0)) (T := 28) (v := ?vzz9) rfl rfl rfl rfl (by kernel_rfl) (by kernel_rfl) (by kernel_rfl) (fun _ _ _ h => h) (by rfl) ?hzz9 hHeld ?rzz9
        case hzz9 => (intro w' hSw; (try dsimp only at hSw); go_simp <;> with_reducible rfl)
        try simp only [Act.put, List.setIfInBounds_toArray, List.set_cons_zero, List.set_cons_succ]
        refine take_op (i := 2) (d := 26) (OP := Op.move (Operand.tmp 11)) (T := 3) (v := ?vzz10) rfl rfl rfl rfl (by kernel_rfl) (by kernel_rfl) (by kernel_rfl) (fun _ _ _ h => h) (by rfl) ?hzz10 hHeld ?rzz10
        case hzz10 => (intro w' hSw; (try dsimp only at hSw); go_simp <;> with_reducible rfl)
        try simp only [Act.put, List.setIfInBounds_toArray, List.set_cons_zero, List.set_cons_succ]
        refine take_op (i := 3) (d := 27) (OP := Op.indexAddr 28 (Operand.tmp 25) (Operand.tmp 26)) (T := 0) (v := ?vzz11) rfl rfl rfl rfl (by kernel_rfl) (by kernel_rfl) (by kernel_rfl) (fun _ _ _ h => h) (by rfl) ?hzz11 hHeld ?rzz11
        case hzz11 => (intro w' hSw; (try dsimp only at hSw); go_simp <;> with_reducible rfl)
        try simp only [Act.put, List.setIfInBounds_toArray, List.set_cons_zero, List.set_cons_succ]
        refine take_op (i := 4) (d := 28) (OP := Op.load 58 (Operand.tmp 27)) (T := 58) (v := ?vzz12) rfl rfl rfl rfl (by kernel_rfl) (by kernel_rfl) (by kernel_rfl) (fun _ _ _ h => h) (by rfl) ?hzz12 hHeld ?rzz12
        case hzz12 => (intro w' hSw; (try dsimp only at hSw); go_simp <;> with_reducible rfl)
        try simp only [Act.put, List.setIfInBounds_toArray, List.set_cons_zero, List.set_cons_succ]
        refine take_op (i := 5) (d := 29) (OP := Op.load 46 (Operand.tmp 4)) (T := 46) (v := ?vzz13) rfl rfl rfl rfl (by kernel_rfl) (by kernel_rfl) (by kernel_rfl) (fun _ _ _ h => h) (by rfl) ?hzz13 hHeld ?rzz13
        case hzz13 => (intro w' hSw; (try dsimp only at hSw); go_simp <;> with_reducible rfl)
        try simp only [Act.put, List.setIfInBounds_toArray, List.set_cons_zero, List.set_cons_succ]
        refine call_op (i := 6) (d := 30) (OP := Op.call { callee := Callee.value (Operand.tmp 24), args := #[Operand.tmp 28, Operand.tmp 29], argTypes := #[58, 46] }) (T := 3) (f := 44) (args := #[.agg #[.int .i64 g', .int .i64 r', .string l', .int .i64 n', .int .i64 i', .string t'], .agg #[.int .i64 g, .int .i64 r, .string l0, .int .i64 n0, .int .i64 i0]]) rfl rfl rfl rfl (by kernel_rfl) (by rfl) (by go_simp) ?_
        refine (kc _).mono ?_
        rintro e z ⟨rfl, bz0⟩
        have bz := bz0.low
        have qz : z.cell? ⟨B, 0, none⟩ = some (.int .i64 g) ∧ z.cell? ⟨B, 1, none⟩ = some (.int .i64 r) ∧ z.cell? ⟨B, 2, none⟩ = some (.string l0) ∧ z.cell? ⟨B, 3, none⟩ = some (.int .i64 n0) ∧ z.cell? ⟨B, 4, none⟩ = some (.int .i64 i0) ∧ z.cell? ⟨b, off + m * 6, none⟩ = some (.int .i64 g') ∧ z.cell? ⟨b, off + m * 6 + 1, none⟩ = some (.int .i64 r') ∧ z.cell? ⟨b, off + m * 6 + 2, none⟩ = some (.string l') ∧ z.cell? ⟨b, off + m * 6 + 3, none⟩ = some (.int .i64 n') ∧ z.cell? ⟨b, off + m * 6 + 4, none⟩ = some (.int .i64 i') ∧ z.cell? ⟨b, off + m * 6 + 5, none⟩ = some (.string t') := ⟨cell_stays hHeld.1 bz, cell_stays hHeld.2.1 bz, cell_stays hHeld.2.2.1 bz, cell_stays hHeld.2.2.2.1 bz, cell_stays hHeld.2.2.2.2.1 bz, cell_stays hHeld.2.2.2.2.2.1 bz, cell_stays hHeld.2.2.2.2.2.2.1 bz, cell_stays hHeld.2.2.2.2.2.2.2.1 bz, cell_stays hHeld.2.2.2.2.2.2.2.2.1 bz, cell_stays hHeld.2.2.2.2.2.2.2.2.2.1 bz, cell_stays hHeld.2.2.2.2.2.2.2.2.2.2 bz⟩
        refine ⟨_, rfl, qz, ?_⟩
        replace hHeld := qz
        have HZ := hide bz
        clear bz bz0 qz
        try simp only [Act.put, List.setIfInBounds_toArray, List.set_cons_zero, List.set_cons_succ]
        refine take_op (i := 7) (d := 31) (OP := Op.binOp BinOp.lss 3 (Operand.tmp 30) (Operand.const (Value.int IntKind.i64 0)) 3) (T := 4) (v := ?vzz14) rfl rfl rfl rfl (by kernel_rfl) (by kernel_rfl) (by kernel_rfl) (fun _ _ _ h => h) (by rfl) ?hzz14 hHeld ?rzz14
        case hzz14 => (intro w' hSw; (try dsimp only at hSw); go_simp <;> with_reducible rfl)
        try simp only [Act.put, List.setIfInBounds_toArray, List.set_cons_zero, List.set_cons_succ]
        refine wpAnyH_done (by kernel_rfl) ?_ _
        have bz' := hP.out.2.2.trans (((drew_below wr).trans HZ.out).mono hP.out.2.2.size)
        have HBZ := hide bz'
        clear bz' hHeld qd hS
        go_wp2
        go_roundw
        case rel =>
          refine ⟨i, m, hmi.1, by omega, rfl, rfl, hide ⟨hP.out.1, fun q y hq hy => ?_, HBZ.out⟩⟩
          by_cases hqm : q = m
          · subst hqm
            rw [HX.out.1] at hy
            cases hy
            rw [← HX.out.2]; exact hc
          · intro hlt'
            have h1 := H.out.2.2.2 m q _ y (by omega) HX.out.1 hy
            have h2 : cmpT y.1 (g, r, l0, n0, i0) = -1 := by
              have := ord_T.range y.1 (g, r, l0, n0, i0); omega
            have := ord_T.trans _ _ _ h1 h2
            have h4 := HX.out.2
            dsimp only at h4 this
            rw [this] at h4
            omega
        case measure => simp [intOf]; omega
    · obtain rfl : i = j := by omega
      clear hlt hij
      have d1 : ¬ ((i : Int) < (i : Int)) := by omega
      by_cases hiN : i < N
      · skip
        have hmN : i < N := by omega
        obtain ⟨x, hx⟩ : ∃ x, l[i]? = some x := ⟨_, List.getElem?_eq_getElem (by rw [← H.out.1]; exact hmN)⟩
        have hbw : Below w.heap.size w wr := HM.out.2.1.trans (hP.out.2.2.mono HM.out.2.1.size)
        obtain ⟨b, off, hao, q0, q1, q2, q3, q4, q5⟩ := (H.out.2.2.1.below hbw).cells hx
        have hrow := (hP.out.2.2.block _ (Array.getElem?_eq_some_iff.1 HM.out.1).1).trans HM.out.1
        obtain ⟨p0, p1, p2, p3, p4, _⟩ := blk5 hrow
        have kc := fun W => cmpStamp_grow x (g, r, l0, n0, i0) W
        obtain ⟨cv, hcv⟩ : ∃ cv, cv = cmpT x.1 (g, r, l0, n0, i0) := ⟨_, rfl⟩
        simp only [← hcv] at kc
        have HX := hide (And.intro hx hcv)
        obtain ⟨⟨g', r', l', n', i'⟩, t'⟩ := x
        dsimp only at q0 q1 q2 q3 q4 q5 kc
        have d2 : (i : Int) < (N : Int) := by omega
        rw [← HB.out] at p0 p1 p2 p3 p4
        have HBW := hide hbw
        have hS : wr.cell? ⟨B, 0, none⟩ = some (.int .i64 g) ∧ wr.cell? ⟨B, 1, none⟩ = some (.int .i64 r) ∧ wr.cell? ⟨B, 2, none⟩ = some (.string l0) ∧ wr.cell? ⟨B, 3, none⟩ = some (.int .i64 n0) ∧ wr.cell? ⟨B, 4, none⟩ = some (.int .i64 i0) ∧ wr.cell? ⟨b, off + i * 6, none⟩ = some (.int .i64 g') ∧ wr.cell? ⟨b, off + i * 6 + 1, none⟩ = some (.int .i64 r') ∧ wr.cell? ⟨b, off + i * 6 + 2, none⟩ = some (.string l') ∧ wr.cell? ⟨b, off + i * 6 + 3, none⟩ = some (.int .i64 n') ∧ wr.cell? ⟨b, off + i * 6 + 4, none⟩ = some (.int .i64 i') ∧ wr.cell? ⟨b, off + i * 6 + 5, none⟩ = some (.string t') := ⟨p0, p1, p2, p3, p4, q0, q1, q2, q3, q4, q5⟩
        subst hao
        clear hx hcv hbw hrow p0 p1 p2 p3 p4 q0 q1 q2 q3 q4 q5
        go_upto_region 8 with fail
        have hfnd : R = (cv == 0) := by
          rw [H.out.2.1, Bool.eq_iff_iff]
          unfold standsB
          rw [List.any_eq_true, beq_iff_eq]
          have h4 := HX.out.2
          constructor
          · rintro ⟨y, hy, hys⟩
            rw [decide_eq_true_eq] at hys
            obtain ⟨q, hq⟩ := List.mem_iff_getElem?.1 hy
            have h0 : cmpT y.1 (g, r, l0, n0, i0) = 0 := by rw [hys]; exact ord_T.refl _
            have hqi : i ≤ q := by
              rcases Nat.lt_or_ge q i with h | h
              · have := hP.out.1 q y h hq; omega
              · exact h
            by_cases hqe : q = i
            · subst hqe
              rw [HX.out.1] at hq
              cases hq
              rw [h4]; exact h0
            · have h1 := H.out.2.2.2 i q _ y (by omega) HX.out.1 hq
              rw [hys] at h1
              have := hP.out.2.1 i _ (Nat.le_refl _) HX.out.1
              rw [h1] at this
              omega
          · intro h0
            refine ⟨_, List.mem_of_getElem? HX.out.1, ?_⟩
            rw [decide_eq_true_eq]
            exact ord_T.eq _ _ (h4.symm.trans h0)
        have HF := hide hfnd
        clear hfnd
        have qd : wr.drew.cell? ⟨B, 0, none⟩ = some (.int .i64 g) ∧ wr.drew.cell? ⟨B, 1, none⟩ = some (.int .i64 r) ∧ wr.drew.cell? ⟨B, 2, none⟩ = some (.string l0) ∧ wr.drew.cell? ⟨B, 3, none⟩ = some (.int .i64 n0) ∧ wr.drew.cell? ⟨B, 4, none⟩ = some (.int .i64 i0) ∧ wr.drew.cell? ⟨b, off + i * 6, none⟩ = some (.int .i64 g') ∧ wr.drew.cell? ⟨b, off + i * 6 + 1, none⟩ = some (.int .i64 r') ∧ wr.drew.cell? ⟨b, off + i * 6 + 2, none⟩ = some (.string l') ∧ wr.drew.cell? ⟨b, off + i * 6 + 3, none⟩ = some (.int .i64 n') ∧ wr.drew.cell? ⟨b, off + i * 6 + 4, none⟩ = some (.int .i64 i') ∧ wr.drew.cell? ⟨b, off + i * 6 + 5, none⟩ = some (.string t') := keepC11 hS (drew_below wr)
        refine wp_region_held_drew (S := (fun w' => w'.cell? ⟨B, 0, none⟩ = some (.int .i64 g) ∧ w'.cell? ⟨B, 1, none⟩ = some (.int .i64 r) ∧ w'.cell? ⟨B, 2, none⟩ = some (.string l0) ∧ w'.cell? ⟨B, 3, none⟩ = some (.int .i64 n0) ∧ w'.cell? ⟨B, 4, none⟩ = some (.int .i64 i0) ∧ w'.cell? ⟨b, off + i * 6, none⟩ = some (.int .i64 g') ∧ w'.cell? ⟨b, off + i * 6 + 1, none⟩ = some (.int .i64 r') ∧ w'.cell? ⟨b, off + i * 6 + 2, none⟩ = some (.string l') ∧ w'.cell? ⟨b, off + i * 6 + 3, none⟩ = some (.int .i64 n') ∧ w'.cell? ⟨b, off + i * 6 + 4, none⟩ = some (.int .i64 i') ∧ w'.cell? ⟨b, off + i * 6 + 5, none⟩ = some (.string t'))) (by kernel_rfl) qd (fun hHeld => ?_)
        try dsimp only at hHeld
        refine take_op (i := 0) (d := 35) (OP := Op.move (Operand.tmp 9)) (T := 3) (v := ?vzz15) rfl rfl rfl rfl (by kernel_rfl) (by kernel_rfl) (by kernel_rfl) (fun _ _ _ h => h) (by rfl) ?hzz15 hHeld ?rzz15
        case hzz15 => (intro w' hSw; (try dsimp only at hSw); go_simp <;> with_reducible rfl)
        try simp only [Act.put, List.setIfInBounds_toArray, List.set_cons_zero, List.set_cons_succ]
        refine take_op (i := 1) (d := 36) (OP := Op.move (Operand.tmp 9)) (T := 3) (v := ?vzz16) rfl rfl rfl rfl (by kernel_rfl) (by kernel_rfl) (by kernel_rfl) (fun _ _ _ h => h) (by rfl) ?hzz16 hHeld ?rzz16
        case hzz16 => (intro w' hSw; (try dsimp only at hSw); go_simp <;> with_reducible rfl)
        try simp only [Act.put, List.setIfInBounds_toArray, List.set_cons_zero, List.set_cons_succ]
        refine take_op (i := 2) (d := 37) (OP := Op.move (Operand.tmp 8)) (T := 3) (v := ?vzz17) rfl rfl rfl rfl (by kernel_rfl) (by kernel_rfl) (by kernel_rfl) (fun _ _ _ h => h) (by rfl) ?hzz17 hHeld ?rzz17
        case hzz17 => (intro w' hSw; (try dsimp only at hSw); go_simp <;> with_reducible rfl)
        try simp only [Act.put, List.setIfInBounds_toArray, List.set_cons_zero, List.set_cons_succ]
        refine take_op (i := 3) (d := 38) (OP := Op.binOp BinOp.lss 3 (Operand.tmp 36) (Operand.tmp 37) 3) (T := 4) (v := ?vzz18) rfl rfl rfl rfl (by kernel_rfl) (by kernel_rfl) (by kernel_rfl) (fun _ _ _ h => h) (by rfl) ?hzz18 hHeld ?rzz18
        case hzz18 => (intro w' hSw; (try dsimp only at hSw); go_simp <;> with_reducible rfl)
        try simp only [Act.put, List.setIfInBounds_toArray, List.set_cons_zero, List.set_cons_succ]
        refine take_op (i := 4) (d := 39) (OP := Op.move (Operand.tmp 38)) (T := 4) (v := ?vzz19) rfl rfl rfl rfl (by kernel_rfl) (by kernel_rfl) (by kernel_rfl) (fun _ _ _ h => h) (by rfl) ?hzz19 hHeld ?rzz19
        case hzz19 => (intro w' hSw; (try dsimp only at hSw); go_simp <;> with_reducible rfl)
        try simp only [Act.put, List.setIfInBounds_toArray, List.set_cons_zero, List.set_cons_succ]
        refine take_op (i := 5) (d := 40) (OP := Op.move (Operand.tmp 2)) (T := 88) (v := ?vzz20) rfl rfl rfl rfl (by kernel_rfl) (by kernel_rfl) (by kernel_rfl) (fun _ _ _ h => h) (by rfl) ?hzz20 hHeld ?rzz20
        case hzz20 => (intro w' hSw; (try dsimp only at hSw); go_simp <;> with_reducible rfl)
        try simp only [Act.put, List.setIfInBounds_toArray, List.set_cons_zero, List.set_cons_succ]
        refine take_op (i := 6) (d := 41) (OP := Op.move (Operand.tmp 0)) (T := 28) (v := ?vzz21) rfl rfl rfl rfl (by kernel_rfl) (by kernel_rfl) (by kernel_rfl) (fun _ _ _ h => h) (by rfl) ?hzz21 hHeld ?rzz21
        case hzz21 => (intro w' hSw; (try dsimp only at hSw); go_simp <;> with_reducible rfl)
        try simp only [Act.put, List.setIfInBounds_toArray, List.set_cons_zero, List.set_cons_succ]
        refine take_op (i := 7) (d := 42) (OP := Op.move (Operand.tmp 9)) (T := 3) (v := ?vzz22) rfl rfl rfl rfl (by kernel_rfl) (by kernel_rfl) (by kernel_rfl) (fun _ _ _ h => h) (by rfl) ?hzz22 hHeld ?rzz22
        case hzz22 => (intro w' hSw; (try dsimp only at hSw); go_simp <;> with_reducible rfl)
        try simp only [Act.put, List.setIfInBounds_toArray, List.set_cons_zero, List.set_cons_succ]
        refine take_op (i := 8) (d := 43) (OP := Op.indexAddr 28 (Operand.tmp 41) (Operand.tmp 42)) (T := 0) (v := ?vzz23) rfl rfl rfl rfl (by kernel_rfl) (by kernel_rfl) (by kernel_rfl) (fun _ _ _ h => h) (by rfl) ?hzz23 hHeld ?rzz23
        case hzz23 => (intro w' hSw; (try dsimp only at hSw); go_simp <;> with_reducible rfl)
        try simp only [Act.put, List.setIfInBounds_toArray, List.set_cons_zero, List.set_cons_succ]
        refine take_op (i := 9) (d := 44) (OP := Op.load 58 (Operand.tmp 43)) (T := 58) (v := ?vzz24) rfl rfl rfl rfl (by kernel_rfl) (by kernel_rfl) (by kernel_rfl) (fun _ _ _ h => h) (by rfl) ?hzz24 hHeld ?rzz24
        case hzz24 => (intro w' hSw; (try dsimp only at hSw); go_simp <;> with_reducible rfl)
        try simp only [Act.put, List.setIfInBounds_toArray, List.set_cons_zero, List.set_cons_succ]
        refine take_op (i := 10) (d := 45) (OP := Op.load 46 (Operand.tmp 4)) (T := 46) (v := ?vzz25) rfl rfl rfl rfl (by kernel_rfl) (by kernel_rfl) (by kernel_rfl) (fun _ _ _ h => h) (by rfl) ?hzz25 hHeld ?rzz25
        case hzz25 => (intro w' hSw; (try dsimp only at hSw); go_simp <;> with_reducible rfl)
        try simp only [Act.put, List.setIfInBounds_toArray, List.set_cons_zero, List.set_cons_succ]
        refine call_op (i := 11) (d := 46) (OP := Op.call { callee := Callee.value (Operand.tmp 40), args := #[Operand.tmp 44, Operand.tmp 45], argTypes := #[58, 46] }) (T := 3) (f := 44) (args := #[.agg #[.int .i64 g', .int .i64 r', .string l', .int .i64 n', .int .i64 i', .string t'], .agg #[.int .i64 g, .int .i64 r, .string l0, .int .i64 n0, .int .i64 i0]]) rfl rfl rfl rfl (by kernel_rfl) (by rfl) (by go_simp) ?_
        refine (kc _).mono ?_
        rintro e z ⟨rfl, bz0⟩
        have bz := bz0.low
        have qz : z.cell? ⟨B, 0, none⟩ = some (.int .i64 g) ∧ z.cell? ⟨B, 1, none⟩ = some (.int .i64 r) ∧ z.cell? ⟨B, 2, none⟩ = some (.string l0) ∧ z.cell? ⟨B, 3, none⟩ = some (.int .i64 n0) ∧ z.cell? ⟨B, 4, none⟩ = some (.int .i64 i0) ∧ z.cell? ⟨b, off + i * 6, none⟩ = some (.int .i64 g') ∧ z.cell? ⟨b, off + i * 6 + 1, none⟩ = some (.int .i64 r') ∧ z.cell? ⟨b, off + i * 6 + 2, none⟩ = some (.string l') ∧ z.cell? ⟨b, off + i * 6 + 3, none⟩ = some (.int .i64 n') ∧ z.cell? ⟨b, off + i * 6 + 4, none⟩ = some (.int .i64 i') ∧ z.cell? ⟨b, off + i * 6 + 5, none⟩ = some (.string t') := ⟨cell_stays hHeld.1 bz, cell_stays hHeld.2.1 bz, cell_stays hHeld.2.2.1 bz, cell_stays hHeld.2.2.2.1 bz, cell_stays hHeld.2.2.2.2.1 bz, cell_stays hHeld.2.2.2.2.2.1 bz, cell_stays hHeld.2.2.2.2.2.2.1 bz, cell_stays hHeld.2.2.2.2.2.2.2.1 bz, cell_stays hHeld.2.2.2.2.2.2.2.2.1 bz, cell_stays hHeld.2.2.2.2.2.2.2.2.2.1 bz, cell_stays hHeld.2.2.2.2.2.2.2.2.2.2 bz⟩
        refine ⟨_, rfl, qz, ?_⟩
        replace hHeld := qz
        have HZ := hide bz
        clear bz bz0 qz
        try simp only [Act.put, List.setIfInBounds_toArray, List.set_cons_zero, List.set_cons_succ]
        refine take_op (i := 12) (d := 47) (OP := Op.binOp BinOp.eql 3 (Operand.tmp 46) (Operand.const (Value.int IntKind.i64 0)) 3) (T := 4) (v := ?vzz26) rfl rfl rfl rfl (by kernel_rfl) (by kernel_rfl) (by kernel_rfl) (fun _ _ _ h => h) (by rfl) ?hzz26 hHeld ?rzz26
        case hzz26 => (intro w' hSw; (try dsimp only at hSw); go_simp <;> with_reducible rfl)
        try simp only [Act.put, List.setIfInBounds_toArray, List.set_cons_zero, List.set_cons_succ]
        refine take_op (i := 13) (d := 48) (OP := Op.pick (Operand.tmp 39) (Operand.tmp 47) (Operand.const (Value.bool false))) (T := 4) (v := ?vzz27) rfl rfl rfl rfl (by kernel_rfl) (by kernel_rfl) (by kernel_rfl) (fun _ _ _ h => h) (by rfl) ?hzz27 hHeld ?rzz27
        case hzz27 => (intro w' hSw; (try dsimp only at hSw); go_simp <;> with_reducible rfl)
        try simp only [Act.put, List.setIfInBounds_toArray, List.set_cons_zero, List.set_cons_succ]
        refine take_op (i := 14) (d := 6) (OP := Op.assign (Operand.tmp 35)) (T := 3) (v := ?vzz28) rfl rfl rfl rfl (by kernel_rfl) (by kernel_rfl) (by kernel_rfl) (fun _ _ _ h => h) (by rfl) ?hzz28 hHeld ?rzz28
        case hzz28 => (intro w' hSw; (try dsimp only at hSw); go_simp <;> with_reducible rfl)
        try simp only [Act.put, List.setIfInBounds_toArray, List.set_cons_zero, List.set_cons_succ]
        refine take_op (i := 15) (d := 7) (OP := Op.assign (Operand.tmp 48)) (T := 4) (v := ?vzz29) rfl rfl rfl rfl (by kernel_rfl) (by kernel_rfl) (by kernel_rfl) (fun _ _ _ h => h) (by rfl) ?hzz29 hHeld ?rzz29
        case hzz29 => (intro w' hSw; (try dsimp only at hSw); go_simp <;> with_reducible rfl)
        try simp only [Act.put, List.setIfInBounds_toArray, List.set_cons_zero, List.set_cons_succ]
        refine wpAnyH_done (by kernel_rfl) ?_ _
        have bz' := hP.out.2.2.trans (((drew_below wr).trans HZ.out).mono hP.out.2.2.size)
        have HBZ := hide bz'
        clear bz' hHeld qd hS
        go_wp2
        go_ret2
        exact ⟨_, by rw [HF.out]; rfl, HM.out.2.1.trans (HBZ.out.mono HM.out.2.1.size)⟩
      · have d2 : ¬ ((i : Int) < (N : Int)) := by omega
        have hfnd : R = false := by
          rw [H.out.2.1, Bool.eq_false_iff, Ne]
          unfold standsB
          rw [List.any_eq_true]
          rintro ⟨y, hy, hys⟩
          rw [decide_eq_true_eq] at hys
          obtain ⟨q, hq⟩ := List.mem_iff_getElem?.1 hy
          have hql := (List.getElem?_eq_some_iff.1 hq).1
          have := hP.out.1 q y (by have := H.out.1; omega) hq
          rw [hys, ord_T.refl] at this
          omega
        have HF := hide hfnd
        clear hfnd
        go_upto_region 8 with fail
        go_quiet (fail)
        go_wp2
        go_ret2
        exact ⟨_, by rw [HF.out]; rfl, HM.out.2.1.trans ((below_drw hP.out.2.2 _).mono HM.out.2.1.size)⟩

set_option maxHeartbeats 1000000 in
theorem stands_any {w : World} (x : El) {ao : Option Addr} {c : Nat} {l : List El} (h : Re w ao l) (hl : l.length ≤ 1000000) (hr : Rise l) : Calls Tryd.prog 48 #[ev x, .slice ao l.length c] w fun e w' => e = .returned (.bool (standsB x.1 l)) ∧ Below w.heap.size w w' := by
  obtain ⟨⟨g, r, l0, n0, i0⟩, t⟩ := x
  have b1 : Below w.heap.size w (w.alloc (.cells #[.int .i64 g, .int .i64 r, .string l0, .int .i64 n0, .int .i64 i0, .string t] 58)) := (Below.refl _ w).alloc (Nat.le_refl _) _
  have hs := search_any (c := c) (g, r, l0, n0, i0) (h.below b1) hl hr
  have HB := hide b1
  clear b1 h
  dsimp only at hs ⊢
  generalize standsB (g, r, l0, n0, i0) l = R at *
  go_enter Tryd.func48, Tryd.ntmps48
  go_wp2_with (go_at_call 63; refine hs.mono ?_; rintro e w2 ⟨p, rfl, b2⟩)
  go_ret
  exact ⟨rfl, HB.out.trans (b2.mono HB.out.size)⟩
end Go.Proofs.YtkdgageljgfgoaaDoor
