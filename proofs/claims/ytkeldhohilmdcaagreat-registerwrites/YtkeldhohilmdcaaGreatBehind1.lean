/-
  register: the document's Behind (44), May (38), Sorted (40).
-/
import Derived.Test.YtkeldhohilmdcaaGreatSort1
import Derived.Test.YtkeldhohilmdcaaGreatRegM
namespace Go.Proofs.YtkeldhohilmdcaaGreat
open Go.RowKit Go.Shelf
set_option linter.unusedSimpArgs false
attribute [local go_sem] Oper.semAt_some

/-- Is a stamp behind the last one's? -/
def behB (l : List El) (s : St) : Bool := match l.getLast? with
  | none => true
  | some y => decide (cmpT y.1 s = -1)
set_option maxHeartbeats 4000000 in
set_option maxRecDepth 100000 in
theorem behind12 {w : World} {ao : Option Addr} {c : Nat} (l' : List El) (s : St) (h : Re w ao l') (hl : l'.length ≤ 100000) (hs : ∀ x ∈ l', x.1.2.2.1.size ≤ 9223372036854775807) : Calls Tryz.prog 44 #[.slice ao l'.length c, svT s] w fun e w' => e = .returned (.bool (behB l' s)) ∧ Below w.heap.size w w' := by
  obtain ⟨g, r, l, n, x⟩ := s
  obtain ⟨w0, hw0⟩ : ∃ q, q = w.alloc (.cells #[.int .i64 g, .int .i64 r, .string l, .int .i64 n, .int .i64 x] 43) := ⟨_, rfl⟩
  have m := heap_alloc_new w (.cells #[.int .i64 g, .int .i64 r, .string l, .int .i64 n, .int .i64 x] 43)
  have b0 : Below w.heap.size w (w.alloc (.cells #[.int .i64 g, .int .i64 r, .string l, .int .i64 n, .int .i64 x] 43)) := (Below.refl _ w).alloc (Nat.le_refl _) _
  rw [← hw0] at m b0
  have HB := hide b0
  have HW0 := hide hw0
  obtain ⟨B0, hB0⟩ : ∃ q, q = w.heap.size := ⟨_, rfl⟩
  have HB0 := hide hB0
  rw [← hB0] at m
  dsimp only [svT, sv]
  cases hg : l'.getLast? with
  | none =>
    have he : l' = [] := List.getLast?_eq_none_iff.1 hg
    subst he
    have hR : behB [] (g, r, l, n, x) = true := rfl
    rw [hR]
    clear hg hw0 m b0 hB0 hs h
    go_enter Tryz.func44, Tryz.ntmps44
    go_upto_region 1 with fail
    rw [← HW0.out]
    go_quiet (fail)
    have HQ := hide (HB.out.trans ((below_drew w0 nq).mono HB.out.size))
    go_wp2
    go_ret
    exact ⟨rfl, HQ.out⟩
  | some q =>
    obtain ⟨R, hR⟩ : ∃ R, R = behB l' (g, r, l, n, x) := ⟨_, rfl⟩
    rw [← hR]
    have hR2 : R = decide (cmpT q.1 (g, r, l, n, x) = -1) := by rw [hR]; unfold behB; rw [hg]
    have hq : l'[l'.length - 1]? = some q := by rw [← hg, List.getLast?_eq_getElem?]
    obtain ⟨N, hN⟩ : ∃ N, N = l'.length := ⟨_, rfl⟩
    have hN0 : 0 < N := by rw [hN]; exact List.length_pos_of_mem (List.mem_of_getElem? hq)
    rw [← hN] at hq hl ⊢
    have hsz := hs q (List.mem_of_getElem? hq)
    obtain ⟨b, off, hao, e0, e1, e2, e3, e4, -⟩ := (h.below b0).cells hq
    subst hao
    have hcall := cmpR_any q.1 (g, r, l, n, x) hsz
    obtain ⟨⟨g', r', l'', n', x'⟩, y⟩ := q
    dsimp only at e0 e1 e2 e3 e4 hcall hR2
    obtain ⟨cv, hcv⟩ : ∃ cv, cv = cmpT (g', r', l'', n', x') (g, r, l, n, x) := ⟨_, rfl⟩
    have hcr := ord_T.range (g', r', l'', n', x') (g, r, l, n, x)
    rw [← hcv] at hcall hR2 hcr
    have hS : ∀ W', Below w0.heap.size w0 W' → W'.cell? ⟨b, off + (N - 1) * 6, none⟩ = some ((.int .i64 g')) ∧ W'.cell? ⟨b, off + (N - 1) * 6 + 1, none⟩ = some ((.int .i64 r')) ∧ W'.cell? ⟨b, off + (N - 1) * 6 + 2, none⟩ = some ((.string l'')) ∧ W'.cell? ⟨b, off + (N - 1) * 6 + 3, none⟩ = some ((.int .i64 n')) ∧ W'.cell? ⟨b, off + (N - 1) * 6 + 4, none⟩ = some ((.int .i64 x')) ∧ W'.cell? ⟨B0, 0, none⟩ = some ((.int .i64 g)) ∧ W'.cell? ⟨B0, 1, none⟩ = some ((.int .i64 r)) ∧ W'.cell? ⟨B0, 2, none⟩ = some ((.string l)) ∧ W'.cell? ⟨B0, 3, none⟩ = some ((.int .i64 n)) ∧ W'.cell? ⟨B0, 4, none⟩ = some ((.int .i64 x)) := fun W' hW => ⟨cell_stays e0 hW, cell_stays e1 hW, cell_stays e2 hW, cell_stays e3 hW, cell_stays e4 hW, cell_stays ((cell_of_row _ _ 0 _ 43 (0, 0) m).trans rfl) hW, cell_stays ((cell_of_row _ _ 1 _ 43 (0, 0) m).trans rfl) hW, cell_stays ((cell_of_row _ _ 2 _ 43 (0, 0) m).trans rfl) hW, cell_stays ((cell_of_row _ _ 3 _ 43 (0, 0) m).trans rfl) hW, cell_stays ((cell_of_row _ _ 4 _ 43 (0, 0) m).trans rfl) hW⟩
    have HS := hide hS
    have hlt : decide (cv < 0) = R := by rw [hR2, decide_eq_decide]; omega
    have HLT := hide hlt
    have hN1 : IntKind.i64.wrap ((N : Int) - 1) = ((N - 1 : Nat) : Int) := by rw [IntKind.wrap_i64]; omega
    have z1 : ¬ (N : Int) = 0 := by omega
    have z2 : ((N - 1 : Nat) : Int) < (N : Int) := by omega
    have z3 : ¬ N = 0 := by omega
    have z4 : N - 1 < N := by omega
    clear hg hw0 m b0 hB0 hs h hR hR2 hN hq hsz e0 e1 e2 e3 e4 hcv hS hcr hlt hl hN0
    dsimp only [svT, sv] at hcall
    go_enter Tryz.func44, Tryz.ntmps44
    go_upto_region 1 with fail
    rw [← HW0.out, ← HB0.out]
    refine wp_region_held_drew (S := (fun w' => w'.cell? ⟨b, off + (N - 1) * 6, none⟩ = some ((.int .i64 g')) ∧ w'.cell? ⟨b, off + (N - 1) * 6 + 1, none⟩ = some ((.int .i64 r')) ∧ w'.cell? ⟨b, off + (N - 1) * 6 + 2, none⟩ = some ((.string l'')) ∧ w'.cell? ⟨b, off + (N - 1) * 6 + 3, none⟩ = some ((.int .i64 n')) ∧ w'.cell? ⟨b, off + (N - 1) * 6 + 4, none⟩ = some ((.int .i64 x')) ∧ w'.cell? ⟨B0, 0, none⟩ = some ((.int .i64 g)) ∧ w'.cell? ⟨B0, 1, none⟩ = some ((.int .i64 r)) ∧ w'.cell? ⟨B0, 2, none⟩ = some ((.string l)) ∧ w'.cell? ⟨B0, 3, none⟩ = some ((.int .i64 n)) ∧ w'.cell? ⟨B0, 4, none⟩ = some ((.int .i64 x)))) (by kernel_rfl) (by exact HS.out _ (drew_below w0)) (fun hHeld => ?_)
    try dsimp only at hHeld
    refine take_op (i := 0) (d := 5) (OP := Op.move (Operand.tmp 0)) (T := 22) (v := ?vzz1) rfl rfl rfl rfl (by kernel_rfl) (by kernel_rfl) (by kernel_rfl) (fun _ _ _ h => h) (by rfl) ?hzz1 hHeld ?rzz1
    case hzz1 => (intro w' hSw; (try dsimp only at hSw); go_simp <;> with_reducible rfl)
    try simp only [Act.put, List.setIfInBounds_toArray, List.set_cons_zero, List.set_cons_succ]
    refine take_op (i := 1) (d := 6) (OP := Op.call { callee := Callee.builtin Builtin.len, args := #[Operand.tmp 5], argTypes := #[22] }) (T := 3) (v := ?vzz2) rfl rfl rfl rfl (by kernel_rfl) (by kernel_rfl) (by kernel_rfl) (fun _ _ _ h => h) (by rfl) ?hzz2 hHeld ?rzz2
    case hzz2 => (intro w' hSw; (try dsimp only at hSw); go_simp <;> with_reducible rfl)
    try simp only [Act.put, List.setIfInBounds_toArray, List.set_cons_zero, List.set_cons_succ]
    refine take_op (i := 2) (d := 7) (OP := Op.binOp BinOp.eql 3 (Operand.tmp 6) (Operand.const (Value.int IntKind.i64 0)) 3) (T := 4) (v := .bool false) rfl rfl rfl rfl (by kernel_rfl) (by kernel_rfl) (by kernel_rfl) (fun _ _ _ h => h) (by rfl) ?hzz3 hHeld ?rzz3
    case hzz3 => (intro w' hSw; (try dsimp only at hSw); go_simp <;> (first | with_reducible rfl | (simp; done) | (simp; omega) | omega))
    try simp only [Act.put, List.setIfInBounds_toArray, List.set_cons_zero, List.set_cons_succ]
    refine take_op (i := 3) (d := 8) (OP := Op.move (Operand.tmp 7)) (T := 4) (v := ?vzz4) rfl rfl rfl rfl (by kernel_rfl) (by kernel_rfl) (by kernel_rfl) (fun _ _ _ h => h) (by rfl) ?hzz4 hHeld ?rzz4
    case hzz4 => (intro w' hSw; (try dsimp only at hSw); go_simp <;> with_reducible rfl)
    try simp only [Act.put, List.setIfInBounds_toArray, List.set_cons_zero, List.set_cons_succ]
    refine take_op (i := 4) (d := 9) (OP := Op.move (Operand.tmp 0)) (T := 22) (v := ?vzz5) rfl rfl rfl rfl (by kernel_rfl) (by kernel_rfl) (by kernel_rfl) (fun _ _ _ h => h) (by rfl) ?hzz5 hHeld ?rzz5
    case hzz5 => (intro w' hSw; (try dsimp only at hSw); go_simp <;> with_reducible rfl)
    try simp only [Act.put, List.setIfInBounds_toArray, List.set_cons_zero, List.set_cons_succ]
    refine take_op (i := 5) (d := 10) (OP := Op.move (Operand.tmp 0)) (T := 22) (v := ?vzz6) rfl rfl rfl rfl (by kernel_rfl) (by kernel_rfl) (by kernel_rfl) (fun _ _ _ h => h) (by rfl) ?hzz6 hHeld ?rzz6
    case hzz6 => (intro w' hSw; (try dsimp only at hSw); go_simp <;> with_reducible rfl)
    try simp only [Act.put, List.setIfInBounds_toArray, List.set_cons_zero, List.set_cons_succ]
    refine take_op (i := 6) (d := 11) (OP := Op.call { callee := Callee.builtin Builtin.len, args := #[Operand.tmp 10], argTypes := #[22] }) (T := 3) (v := ?vzz7) rfl rfl rfl rfl (by kernel_rfl) (by kernel_rfl) (by kernel_rfl) (fun _ _ _ h => h) (by rfl) ?hzz7 hHeld ?rzz7
    case hzz7 => (intro w' hSw; (try dsimp only at hSw); go_simp <;> with_reducible rfl)
    try simp only [Act.put, List.setIfInBounds_toArray, List.set_cons_zero, List.set_cons_succ]
    refine take_op (i := 7) (d := 12) (OP := Op.binOp BinOp.sub 3 (Operand.tmp 11) (Operand.const (Value.int IntKind.i64 1)) 3) (T := 3) (v := .int .i64 ((N - 1 : Nat) : Int)) rfl rfl rfl rfl (by kernel_rfl) (by kernel_rfl) (by kernel_rfl) (fun _ _ _ h => h) (by rfl) ?hzz8 hHeld ?rzz8
    case hzz8 => (intro w' hSw; (try dsimp only at hSw); go_simp <;> (first | with_reducible rfl | exact hN1))
    try simp only [Act.put, List.setIfInBounds_toArray, List.set_cons_zero, List.set_cons_succ]
    refine take_op (i := 8) (d := 13) (OP := Op.indexAddr 22 (Operand.tmp 9) (Operand.tmp 12)) (T := 0) (v := ?vzz9) rfl rfl rfl rfl (by kernel_rfl) (by kernel_rfl) (by kernel_rfl) (fun _ _ _ h => h) (by rfl) ?hzz9 hHeld ?rzz9
    case hzz9 => (intro w' hSw; (try dsimp only at hSw); go_simp <;> with_reducible rfl)
    try simp only [Act.put, List.setIfInBounds_toArray, List.set_cons_zero, List.set_cons_succ]
    refine take_op (i := 9) (d := 14) (OP := Op.fieldAddr 53 (Operand.tmp 13) 0) (T := 0) (v := ?vzz10) rfl rfl rfl rfl (by kernel_rfl) (by kernel_rfl) (by kernel_rfl) (fun _ _ _ h => h) (by rfl) ?hzz10 hHeld ?rzz10
    case hzz10 => (intro w' hSw; (try dsimp only at hSw); go_simp <;> with_reducible rfl)
    try simp only [Act.put, List.setIfInBounds_toArray, List.set_cons_zero, List.set_cons_succ]
    refine take_op (i := 10) (d := 15) (OP := Op.load 43 (Operand.tmp 14)) (T := 43) (v := ?vzz11) rfl rfl rfl rfl (by kernel_rfl) (by kernel_rfl) (by kernel_rfl) (fun _ _ _ h => h) (by rfl) ?hzz11 hHeld ?rzz11
    case hzz11 => (intro w' hSw; (try dsimp only at hSw); go_simp <;> with_reducible rfl)
    try simp only [Act.put, List.setIfInBounds_toArray, List.set_cons_zero, List.set_cons_succ]
    refine take_op (i := 11) (d := 16) (OP := Op.load 43 (Operand.tmp 3)) (T := 43) (v := ?vzz12) rfl rfl rfl rfl (by kernel_rfl) (by kernel_rfl) (by kernel_rfl) (fun _ _ _ h => h) (by rfl) ?hzz12 hHeld ?rzz12
    case hzz12 => (intro w' hSw; (try dsimp only at hSw); go_simp <;> with_reducible rfl)
    try simp only [Act.put, List.setIfInBounds_toArray, List.set_cons_zero, List.set_cons_succ]
    refine call_op (i := 12) (d := 17) (OP := Op.call { callee := Callee.value (Operand.func 86), args := #[Operand.tmp 15, Operand.tmp 16], argTypes := #[43, 43] }) (T := 3) (f := 86) (args := #[.agg #[.int .i64 g', .int .i64 r', .string l'', .int .i64 n', .int .i64 x'], .agg #[.int .i64 g, .int .i64 r, .string l, .int .i64 n, .int .i64 x]]) rfl rfl rfl rfl (by kernel_rfl) (by rfl) (by go_simp) ?_
    refine (hcall _).mono ?_
    rintro e w5 ⟨rfl, b5⟩
    have bb5 := (drew_below w0).trans (b5.mono (drew_below w0).size)
    have q5 := HS.out w5 bb5
    have HW5 := hide (HB.out.trans (bb5.mono HB.out.size))
    clear b5 bb5
    refine ⟨_, rfl, q5, ?_⟩
    replace hHeld := q5
    try simp only [Act.put, List.setIfInBounds_toArray, List.set_cons_zero, List.set_cons_succ]
    refine take_op (i := 13) (d := 18) (OP := Op.binOp BinOp.lss 3 (Operand.tmp 17) (Operand.const (Value.int IntKind.i64 0)) 3) (T := 4) (v := ?vzz13) rfl rfl rfl rfl (by kernel_rfl) (by kernel_rfl) (by kernel_rfl) (fun _ _ _ h => h) (by rfl) ?hzz13 hHeld ?rzz13
    case hzz13 => (intro w' hSw; (try dsimp only at hSw); go_simp <;> with_reducible rfl)
    try simp only [Act.put, List.setIfInBounds_toArray, List.set_cons_zero, List.set_cons_succ]
    refine take_op (i := 14) (d := 19) (OP := Op.pick (Operand.tmp 8) (Operand.const (Value.bool true)) (Operand.tmp 18)) (T := 4) (v := ?vzz14) rfl rfl rfl rfl (by kernel_rfl) (by kernel_rfl) (by kernel_rfl) (fun _ _ _ h => h) (by rfl) ?hzz14 hHeld ?rzz14
    case hzz14 => (intro w' hSw; (try dsimp only at hSw); go_simp <;> with_reducible rfl)
    try simp only [Act.put, List.setIfInBounds_toArray, List.set_cons_zero, List.set_cons_succ]
    refine take_op (i := 15) (d := 4) (OP := Op.assign (Operand.tmp 19)) (T := 4) (v := ?vzz15) rfl rfl rfl rfl (by kernel_rfl) (by kernel_rfl) (by kernel_rfl) (fun _ _ _ h => h) (by rfl) ?hzz15 hHeld ?rzz15
    case hzz15 => (intro w' hSw; (try dsimp only at hSw); go_simp <;> with_reducible rfl)
    try simp only [Act.put, List.setIfInBounds_toArray, List.set_cons_zero, List.set_cons_succ]
    refine wpAnyH_done (by kernel_rfl) ?_ _
    clear HS hcall
    go_wp2
    go_ret
    exact ⟨by rw [← HLT.out]; rfl, HW5.out⟩
set_option maxHeartbeats 1000000 in
theorem refMay12 {w : World} {ao : Option Addr} {c : Nat} (l : List El) (h : Re w ao l) (hl : l.length ≤ 100000) (hs : ∀ x ∈ l, x.1.2.2.1.size ≤ 9223372036854775807) : Calls Tryz.prog 38 #[.slice ao l.length c] w fun e w' => e = .returned (.bool (mayE l)) ∧ Below w.heap.size w w' := by
  have hm := refMay11 (c := c) l h hl hs
  obtain ⟨N, hN⟩ : ∃ N, N = l.length := ⟨_, rfl⟩
  rw [← hN] at hm ⊢
  clear hN hl
  go_enter Tryz.func38, Tryz.ntmps38
  go_wp2_with (go_at_call 15; refine hm.mono ?_; rintro e w1 ⟨rfl, b1⟩; have H1 := hide b1; clear b1; dsimp only)
  go_ret
  exact ⟨rfl, H1.out⟩
set_option maxHeartbeats 1000000 in
theorem refSorted12 {w : World} {ao : Option Addr} {c : Nat} (l : List El) (h : Re w ao l) (hl : l.length ≤ 100000) (hm : mayE l = true) : Calls Tryz.prog 40 #[.slice ao l.length c] w fun e w' => ∃ ao' c', e = .returned (.slice ao' l.length c') ∧ Oe w' w.heap.size (.slice ao' l.length c') (srtE l) ∧ Below w.heap.size w w' := by
  have hm := refSorted18 (c := c) l h hl hm
  have hlen := srtE_len l
  obtain ⟨S, hS⟩ : ∃ S, S = srtE l := ⟨_, rfl⟩
  rw [← hS] at hm hlen ⊢
  obtain ⟨N, hN⟩ : ∃ N, N = l.length := ⟨_, rfl⟩
  rw [← hN] at hm hlen ⊢
  have HL := hide hlen
  clear hN hl hS hlen
  go_enter Tryz.func40, Tryz.ntmps40
  go_wp2_with (go_at_call 18; refine hm.mono ?_; rintro e w1 ⟨v, rfl, o1, b1⟩; obtain ⟨ao', c', e1, -⟩ := o1.form; rw [HL.out] at e1; subst e1; have H1 := hide (And.intro o1 b1); clear o1 b1; dsimp only)
  go_ret
  exact ⟨_, _, rfl, H1.out.1, H1.out.2⟩
end Go.Proofs.YtkeldhohilmdcaaGreat
