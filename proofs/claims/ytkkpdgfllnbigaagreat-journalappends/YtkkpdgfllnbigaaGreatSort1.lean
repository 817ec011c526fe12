/-
  tagset, register and queue: the document's Sorted (11): elements put in one by one.
-/
import Derived.Test.YtkkpdgfllnbigaaGreatMg16
import Derived.Test.YtkkpdgfllnbigaaGreatMg9
import Derived.Test.YtkkpdgfllnbigaaGreatMg13
import Derived.Shelf.SlSortCmp.QuietGrown
namespace Go.Proofs.YtkkpdgfllnbigaaGreat
open Go.RowKit Go.Shelf Go.Sort
set_option linter.unusedSimpArgs false
attribute [local go_sem] Oper.semAt_some

theorem Oe.reo {w : World} {B n c : Nat} {ao : Option Addr} {L : List El} (h : Oe w B (.slice ao n c) L) : Re w ao L ∧ (∀ a, ao = some a → a.spot = none) ∧ (ao = none → c = 0) := by
  have hr := h.re
  obtain ⟨ao', c', e, h1, h2, h3, h4⟩ := h.form
  injection e with e1 e2 e3
  subst e1 e3
  exact ⟨hr, fun a ha => (h4 a ha).2.2, h2⟩
theorem one_re (W : World) (x : El) : Re (W.alloc (.cells (encE x).toArray 53)) (some ⟨W.heap.size, 0, none⟩) [x] := ⟨by simp, fun a ha j u hj => by
  cases ha
  rw [add_lit, cell_of_row _ _ (0 + j) (encE x).toArray 53 (0, 0) (heap_alloc_new W _), Nat.zero_add]
  simpa [flatE] using hj⟩
theorem exec_ld53 {ev' : Operand → Value} {p : Operand} {T : TypeId} {w : World} {b o : Nat} {g r : Int} {l : ByteArray} {n x : Int} {y : ByteArray} (hx : ev' p = .pointer (some ⟨b, o, none⟩)) (c0 : w.cell? ⟨b, o, none⟩ = some (.int .i64 g)) (c1 : w.cell? ⟨b, o + 1, none⟩ = some (.int .i64 r)) (c2 : w.cell? ⟨b, o + 2, none⟩ = some (.string l)) (c3 : w.cell? ⟨b, o + 3, none⟩ = some (.int .i64 n)) (c4 : w.cell? ⟨b, o + 4, none⟩ = some (.int .i64 x)) (c5 : w.cell? ⟨b, o + 5, none⟩ = some (.string y)) :
    (execOp ev' { dst := none, op := .load 53 p, type := T, pos := "", after := #[], guard := none }).run Tryz.prog w = .ok (.value (ev ((g, r, l, n, x), y))) w := by
  unfold execOp
  simp only [hx]
  go_simp
theorem cmpR_any (y x : St) (hy : y.2.2.1.size ≤ 9223372036854775807) (W : World) : Calls Tryz.prog 114 #[svT y, svT x] W fun e w' => e = .returned (.int .i64 (cmpT y x)) ∧ Below W.heap.size W w' :=
  (refCmpS_grow y.1 y.2.1 y.2.2.1 y.2.2.2.1 y.2.2.2.2 x.1 x.2.1 x.2.2.1 x.2.2.2.1 x.2.2.2.2 W hy).mono fun _ _ ⟨he, hw⟩ => ⟨by rw [he, ← cmp_lexS, cmpS_eq], hw.low⟩
theorem okEl_size {x : El} (h : okEl x = true) : x.1.2.2.1.size ≤ 9223372036854775807 := by
  simp only [okEl, Bool.and_eq_true] at h
  have := (S_bounds h.1)
  omega
set_option maxHeartbeats 8000000 in
set_option maxRecDepth 100000 in
theorem refSorted18 {w : World} {ao : Option Addr} {c : Nat} (l : List El) (h : Re w ao l) (hl : l.length ≤ 100000) (hm : mayE l = true) : Calls Tryz.prog 22 #[.slice ao l.length c] w fun e w' => ∃ v, e = .returned v ∧ Oe w' w.heap.size v (srtE l) ∧ Below w.heap.size w w' := by
  have mixed : Tryz.prog.follows .mixedOrders = true := by kernel_rfl
  have hall : ∀ x ∈ l, okEl x = true := fun x hx => by simp only [mayE, Bool.and_eq_true] at hm; exact List.all_eq_true.1 hm.1 x hx
  have hnd : (l.map Prod.fst).Nodup := by simp only [mayE, Bool.and_eq_true, decide_eq_true_eq] at hm; exact hm.2
  obtain ⟨N, hN⟩ : ∃ N, N = l.length := ⟨_, rfl⟩
  rw [← hN] at hl ⊢
  have H := hide (And.intro hN (And.intro h (And.intro hall hnd)))
  clear hN h hall hnd hm
  go_enter Tryz.func22, Tryz.ntmps22
  go_wp2
  go_loopw [3, 4] (fun v3 v4 wo => ∃ i : Nat, v4 = .int .i64 i ∧ i ≤ N ∧ Hid (Oe wo w.heap.size v3 (insL [] (l.take i))) ∧ Hid (Below w.heap.size w wo)) (fun _ v4 _ => N - (intOf v4).toNat)
  case atStart => exact ⟨0, rfl, by omega, hide (Oe.nil _ _), hide (Below.refl _ _)⟩
  case round =>
    obtain ⟨i, rfl, hil, HO, HW⟩ := hrel
    have hsz := HW.out.size
    by_cases hgo : i < N
    · have z1 : (i : Int) < (N : Int) := by omega
      obtain ⟨x, hx⟩ : ∃ x, l[i]? = some x := ⟨_, List.getElem?_eq_getElem (by rw [← H.out.1]; exact hgo)⟩
      obtain ⟨b, off, hao, -⟩ := H.out.2.1.cells hx
      have hnext : insL [] (l.take (i + 1)) = insE x (insL [] (l.take i)) := by rw [List.take_add_one, hx]; exact insL_snoc _ _ _
      have hpm := insL_perm (l.take i) []
      rw [List.nil_append] at hpm
      have hmem : ∀ y ∈ insL [] (l.take i), okEl y = true ∧ y.1 ≠ x.1 := fun y hy => by
        have hy' := hpm.subset hy
        refine ⟨H.out.2.2.1 y (List.mem_of_mem_take hy'), fun e => ?_⟩
        obtain ⟨j, hj⟩ := List.mem_iff_getElem?.1 hy'
        rw [List.getElem?_take] at hj
        split at hj
        · rename_i hji
          have h1 : (l.map Prod.fst)[i]? = some x.1 := by rw [List.getElem?_map, hx]; rfl
          have h2 : (l.map Prod.fst)[j]? = some x.1 := by rw [List.getElem?_map, hj, ← e]; rfl
          exact List.pairwise_iff_getElem.1 H.out.2.2.2 j i (List.getElem?_eq_some_iff.1 h2).1 (List.getElem?_eq_some_iff.1 h1).1 hji ((List.getElem?_eq_some_iff.1 h2).2.trans (List.getElem?_eq_some_iff.1 h1).2.symm)
        · cases hj
      have hlen := hpm.length_eq
      rw [List.length_take] at hlen
      have HX := hide (And.intro hx hnext)
      obtain ⟨out, hout⟩ : ∃ out, out = insL [] (l.take i) := ⟨_, rfl⟩
      rw [← hout] at HO HX hmem hlen
      have hlo : out.length ≤ 100000 := by omega
      have HM := hide hmem
      have HAO := hide hao
      clear hx hnext hpm hmem hlen hout
      obtain ⟨ao3, c3, hv3, hre3, hn3, hc3, hsh⟩ := HO.out.form
      subst hv3
      have HR := hide (And.intro (H.out.2.1.below HW.out) (And.intro hre3 (And.intro hn3 hc3)))
      rw [hao] at HR
      subst hao
      clear hre3 hn3 hc3 hsh
      obtain ⟨wo, hwo⟩ : ∃ wo, wr = wo := ⟨_, rfl⟩
      rw [hwo] at HO HW HR hsz ⊢
      clear hwo
      obtain ⟨⟨g, r, lb, m, ix⟩, y⟩ := x
      have hple := posE_le ((g, r, lb, m, ix), y) out
      obtain ⟨P, hP⟩ : ∃ P, P = posE ((g, r, lb, m, ix), y) out := ⟨_, rfl⟩
      have HP := hide hP
      rw [← hP] at hple
      clear hP
      go_wp2
      go_loopw [5] (fun v5 wr => ∃ n : Nat, v5 = .int .i64 n ∧ n ≤ P ∧ Hid (Below wo.heap.size wo wr)) (fun v5 _ => P - (intOf v5).toNat)
      case atStart => exact ⟨0, rfl, Nat.zero_le _, hide (Below.refl _ _)⟩
      case round =>
        obtain ⟨n, rfl, hn, HI⟩ := hrel
        by_cases hne : n < out.length
        · obtain ⟨q, hq⟩ : ∃ q, out[n]? = some q := ⟨_, List.getElem?_eq_getElem hne⟩
          have hqok := HM.out q (List.mem_of_getElem? hq)
          obtain ⟨gb, goff, hg, e0, e1, e2, e3, e4, -⟩ := (HR.out.2.1.below HI.out).cells hq
          subst hg
          obtain ⟨b', off', e', f0, f1, f2, f3, f4, -⟩ := (HR.out.1.below HI.out).cells HX.out.1
          injection e' with e'
          injection e' with e1' e2'
          subst e1' e2'
          have hcall := cmpR_any q.1 (g, r, lb, m, ix) (okEl_size hqok.1)
          obtain ⟨⟨g', r', lb', m', ix'⟩, y'⟩ := q
          dsimp only at e0 e1 e2 e3 e4 f0 f1 f2 f3 f4 hcall
          have hS : ∀ W', Below wr.heap.size wr W' → W'.cell? ⟨gb, goff + n * 6, none⟩ = some (.int .i64 g') ∧ W'.cell? ⟨gb, goff + n * 6 + 1, none⟩ = some (.int .i64 r') ∧ W'.cell? ⟨gb, goff + n * 6 + 2, none⟩ = some (.string lb') ∧ W'.cell? ⟨gb, goff + n * 6 + 3, none⟩ = some (.int .i64 m') ∧ W'.cell? ⟨gb, goff + n * 6 + 4, none⟩ = some (.int .i64 ix') ∧ W'.cell? ⟨b, off + i * 6, none⟩ = some (.int .i64 g) ∧ W'.cell? ⟨b, off + i * 6 + 1, none⟩ = some (.int .i64 r) ∧ W'.cell? ⟨b, off + i * 6 + 2, none⟩ = some (.string lb) ∧ W'.cell? ⟨b, off + i * 6 + 3, none⟩ = some (.int .i64 m) ∧ W'.cell? ⟨b, off + i * 6 + 4, none⟩ = some (.int .i64 ix) := fun W' hW => ⟨cell_stays e0 hW, cell_stays e1 hW, cell_stays e2 hW, cell_stays e3 hW, cell_stays e4 hW, cell_stays f0 hW, cell_stays f1 hW, cell_stays f2 hW, cell_stays f3 hW, cell_stays f4 hW⟩
          have HS := hide hS
          have z2 : (n : Int) < (out.length : Int) := by omega
          have z3 : ¬ (n : Int) < 0 := by omega
          have hs1 := HI.out.size
          have z4 : decide (n < out.length) = true := by simpa using hne
          have z5 : decide (i < N) = true := by simpa using hgo
          clear e0 e1 e2 e3 e4 f0 f1 f2 f3 f4 hS
          by_cases hnp : n < P
          · have hlt := posE_lt _ out n _ hq (by rw [← HP.out]; exact hnp)
            dsimp only at hlt
            rw [hlt] at hcall
            clear hlt hq hqok
            dsimp only [svT, sv] at hcall
            go_upto_region 6 with fail
            refine wp_region_held_drew (S := (fun w' => w'.cell? ⟨gb, goff + n * 6, none⟩ = some (.int .i64 g') ∧ w'.cell? ⟨gb, goff + n * 6 + 1, none⟩ = some (.int .i64 r') ∧ w'.cell? ⟨gb, goff + n * 6 + 2, none⟩ = some (.string lb') ∧ w'.cell? ⟨gb, goff + n * 6 + 3, none⟩ = some (.int .i64 m') ∧ w'.cell? ⟨gb, goff + n * 6 + 4, none⟩ = some (.int .i64 ix') ∧ w'.cell? ⟨b, off + i * 6, none⟩ = some (.int .i64 g) ∧ w'.cell? ⟨b, off + i * 6 + 1, none⟩ = some (.int .i64 r) ∧ w'.cell? ⟨b, off + i * 6 + 2, none⟩ = some (.string lb) ∧ w'.cell? ⟨b, off + i * 6 + 3, none⟩ = some (.int .i64 m) ∧ w'.cell? ⟨b, off + i * 6 + 4, none⟩ = some (.int .i64 ix))) (by kernel_rfl) (by exact HS.out _ (drew_below wr)) (fun hHeld => ?_)
            try dsimp only at hHeld
            refine take_op (i := 0) (d := 12) (OP := Op.move (Operand.tmp 5)) (T := 3) (v := ?v1) rfl rfl rfl rfl (by kernel_rfl) (by kernel_rfl) (by kernel_rfl) (fun _ _ _ h => h) (by rfl) ?h1 hHeld ?r1
            case h1 => (intro w' hSw; (try dsimp only at hSw); go_simp <;> with_reducible rfl)
            try simp only [Act.put, sI, sZ, sS]
            refine take_op (i := 1) (d := 13) (OP := Op.move (Operand.tmp 3)) (T := 22) (v := ?v2) rfl rfl rfl rfl (by kernel_rfl) (by kernel_rfl) (by kernel_rfl) (fun _ _ _ h => h) (by rfl) ?h2 hHeld ?r2
            case h2 => (intro w' hSw; (try dsimp only at hSw); go_simp <;> with_reducible rfl)
            try simp only [Act.put, sI, sZ, sS]
            refine take_op (i := 2) (d := 14) (OP := Op.call { callee := Callee.builtin Builtin.len, args := #[Operand.tmp 13], argTypes := #[22] }) (T := 3) (v := ?v3) rfl rfl rfl rfl (by kernel_rfl) (by kernel_rfl) (by kernel_rfl) (fun _ _ _ h => h) (by rfl) ?h3 hHeld ?r3
            case h3 => (intro w' hSw; (try dsimp only at hSw); go_simp <;> with_reducible rfl)
            try simp only [Act.put, sI, sZ, sS]
            refine take_op (i := 3) (d := 15) (OP := Op.binOp BinOp.lss 3 (Operand.tmp 12) (Operand.tmp 14) 3) (T := 4) (v := ?v4) rfl rfl rfl rfl (by kernel_rfl) (by kernel_rfl) (by kernel_rfl) (fun _ _ _ h => h) (by rfl) ?h4 hHeld ?r4
            case h4 => (intro w' hSw; (try dsimp only at hSw); go_simp <;> with_reducible rfl)
            try simp only [Act.put, sI, sZ, sS]
            refine take_op (i := 4) (d := 16) (OP := Op.move (Operand.tmp 15)) (T := 4) (v := ?v5) rfl rfl rfl rfl (by kernel_rfl) (by kernel_rfl) (by kernel_rfl) (fun _ _ _ h => h) (by rfl) ?h5 hHeld ?r5
            case h5 => (intro w' hSw; (try dsimp only at hSw); go_simp <;> with_reducible rfl)
            try simp only [Act.put, sI, sZ, sS]
            refine take_op (i := 5) (d := 17) (OP := Op.move (Operand.tmp 3)) (T := 22) (v := ?v6) rfl rfl rfl rfl (by kernel_rfl) (by kernel_rfl) (by kernel_rfl) (fun _ _ _ h => h) (by rfl) ?h6 hHeld ?r6
            case h6 => (intro w' hSw; (try dsimp only at hSw); go_simp <;> with_reducible rfl)
            try simp only [Act.put, sI, sZ, sS]
            refine take_op (i := 6) (d := 18) (OP := Op.move (Operand.tmp 5)) (T := 3) (v := ?v7) rfl rfl rfl rfl (by kernel_rfl) (by kernel_rfl) (by kernel_rfl) (fun _ _ _ h => h) (by rfl) ?h7 hHeld ?r7
            case h7 => (intro w' hSw; (try dsimp only at hSw); go_simp <;> with_reducible rfl)
            try simp only [Act.put, sI, sZ, sS]
            refine take_op (i := 7) (d := 19) (OP := Op.indexAddr 22 (Operand.tmp 17) (Operand.tmp 18)) (T := 0) (v := ?v8) rfl rfl rfl rfl (by kernel_rfl) (by kernel_rfl) (by kernel_rfl) (fun _ _ _ h => h) (by rfl) ?h8 hHeld ?r8
            case h8 => (intro w' hSw; (try dsimp only at hSw); go_simp <;> with_reducible rfl)
            try simp only [Act.put, sI, sZ, sS]
            refine take_op (i := 8) (d := 20) (OP := Op.fieldAddr 53 (Operand.tmp 19) 0) (T := 0) (v := ?v9) rfl rfl rfl rfl (by kernel_rfl) (by kernel_rfl) (by kernel_rfl) (fun _ _ _ h => h) (by rfl) ?h9 hHeld ?r9
            case h9 => (intro w' hSw; (try dsimp only at hSw); go_simp <;> with_reducible rfl)
            try simp only [Act.put, sI, sZ, sS]
            refine take_op (i := 9) (d := 21) (OP := Op.load 43 (Operand.tmp 20)) (T := 43) (v := ?v10) rfl rfl rfl rfl (by kernel_rfl) (by kernel_rfl) (by kernel_rfl) (fun _ _ _ h => h) (by rfl) ?h10 hHeld ?r10
            case h10 => (intro w' hSw; (try dsimp only at hSw); go_simp <;> with_reducible rfl)
            try simp only [Act.put, sI, sZ, sS]
            refine take_op (i := 10) (d := 22) (OP := Op.move (Operand.tmp 0)) (T := 22) (v := ?v11) rfl rfl rfl rfl (by kernel_rfl) (by kernel_rfl) (by kernel_rfl) (fun _ _ _ h => h) (by rfl) ?h11 hHeld ?r11
            case h11 => (intro w' hSw; (try dsimp only at hSw); go_simp <;> with_reducible rfl)
            try simp only [Act.put, sI, sZ, sS]
            refine take_op (i := 11) (d := 23) (OP := Op.move (Operand.tmp 4)) (T := 3) (v := ?v12) rfl rfl rfl rfl (by kernel_rfl) (by kernel_rfl) (by kernel_rfl) (fun _ _ _ h => h) (by rfl) ?h12 hHeld ?r12
            case h12 => (intro w' hSw; (try dsimp only at hSw); go_simp <;> with_reducible rfl)
            try simp only [Act.put, sI, sZ, sS]
            refine take_op (i := 12) (d := 24) (OP := Op.indexAddr 22 (Operand.tmp 22) (Operand.tmp 23)) (T := 0) (v := ?v13) rfl rfl rfl rfl (by kernel_rfl) (by kernel_rfl) (by kernel_rfl) (fun _ _ _ h => h) (by rfl) ?h13 hHeld ?r13
            case h13 => (intro w' hSw; (try dsimp only at hSw); go_simp <;> with_reducible rfl)
            try simp only [Act.put, sI, sZ, sS]
            refine take_op (i := 13) (d := 25) (OP := Op.fieldAddr 53 (Operand.tmp 24) 0) (T := 0) (v := ?v14) rfl rfl rfl rfl (by kernel_rfl) (by kernel_rfl) (by kernel_rfl) (fun _ _ _ h => h) (by rfl) ?h14 hHeld ?r14
            case h14 => (intro w' hSw; (try dsimp only at hSw); go_simp <;> with_reducible rfl)
            try simp only [Act.put, sI, sZ, sS]
            refine take_op (i := 14) (d := 26) (OP := Op.load 43 (Operand.tmp 25)) (T := 43) (v := ?v15) rfl rfl rfl rfl (by kernel_rfl) (by kernel_rfl) (by kernel_rfl) (fun _ _ _ h => h) (by rfl) ?h15 hHeld ?r15
            case h15 => (intro w' hSw; (try dsimp only at hSw); go_simp <;> with_reducible rfl)
            try simp only [Act.put, sI, sZ, sS]
            refine call_op (i := 15) (d := 27) (OP := Op.call { callee := Callee.value (Operand.func 114), args := #[Operand.tmp 21, Operand.tmp 26], argTypes := #[43, 43] }) (T := 3) (f := 114) (args := #[.agg #[.int .i64 g', .int .i64 r', .string lb', .int .i64 m', .int .i64 ix'], .agg #[.int .i64 g, .int .i64 r, .string lb, .int .i64 m, .int .i64 ix]]) rfl rfl rfl rfl (by kernel_rfl) (by rfl) (by go_simp) ?_
            refine (hcall _).mono ?_
            rintro e w5 ⟨rfl, b5⟩
            have bb5 := (drew_below wr).trans (b5.mono (drew_below wr).size)
            have q5 := HS.out w5 bb5
            have HW5 := hide (HI.out.trans (bb5.mono hs1))
            clear b5 bb5
            refine ⟨_, rfl, q5, ?_⟩
            replace hHeld := q5
            try simp only [Act.put, sI, sZ, sS]
            refine take_op (i := 16) (d := 28) (OP := Op.binOp BinOp.lss 3 (Operand.tmp 27) (Operand.const (Value.int IntKind.i64 0)) 3) (T := 4) (v := ?v16) rfl rfl rfl rfl (by kernel_rfl) (by kernel_rfl) (by kernel_rfl) (fun _ _ _ h => h) (by rfl) ?h16 hHeld ?r16
            case h16 => (intro w' hSw; (try dsimp only at hSw); go_simp <;> with_reducible rfl)
            try simp only [Act.put, sI, sZ, sS]
            refine take_op (i := 17) (d := 29) (OP := Op.move (Operand.tmp 28)) (T := 4) (v := ?v17) rfl rfl rfl rfl (by kernel_rfl) (by kernel_rfl) (by kernel_rfl) (fun _ _ _ h => h) (by rfl) ?h17 hHeld ?r17
            case h17 => (intro w' hSw; (try dsimp only at hSw); go_simp <;> with_reducible rfl)
            try simp only [Act.put, sI, sZ, sS]
            refine pass_op (i := 18) (d := 30) rfl rfl (by kernel_rfl) (by kernel_rfl) (by kernel_rfl) (fun _ _ _ h => h) (by rfl) hHeld ?_
            try simp only [Act.put, sI, sZ, sS]
            refine pass_op (i := 19) (d := 31) rfl rfl (by kernel_rfl) (by kernel_rfl) (by kernel_rfl) (fun _ _ _ h => h) (by rfl) hHeld ?_
            try simp only [Act.put, sI, sZ, sS]
            refine pass_op (i := 20) (d := 32) rfl rfl (by kernel_rfl) (by kernel_rfl) (by kernel_rfl) (fun _ _ _ h => h) (by rfl) hHeld ?_
            try simp only [Act.put, sI, sZ, sS]
            refine pass_op (i := 21) (d := 33) rfl rfl (by kernel_rfl) (by kernel_rfl) (by kernel_rfl) (fun _ _ _ h => h) (by rfl) hHeld ?_
            try simp only [Act.put, sI, sZ, sS]
            refine pass_op (i := 22) (d := 34) rfl rfl (by kernel_rfl) (by kernel_rfl) (by kernel_rfl) (fun _ _ _ h => h) (by rfl) hHeld ?_
            try simp only [Act.put, sI, sZ, sS]
            refine pass_op (i := 23) (d := 35) rfl rfl (by kernel_rfl) (by kernel_rfl) (by kernel_rfl) (fun _ _ _ h => h) (by rfl) hHeld ?_
            try simp only [Act.put, sI, sZ, sS]
            refine pass_op (i := 24) (d := 36) rfl rfl (by kernel_rfl) (by kernel_rfl) (by kernel_rfl) (fun _ _ _ h => h) (by rfl) hHeld ?_
            try simp only [Act.put, sI, sZ, sS]
            refine pass_op (i := 25) (d := 37) rfl rfl (by kernel_rfl) (by kernel_rfl) (by kernel_rfl) (fun _ _ _ h => h) (by rfl) hHeld ?_
            try simp only [Act.put, sI, sZ, sS]
            refine pass_op (i := 26) (d := 38) rfl rfl (by kernel_rfl) (by kernel_rfl) (by kernel_rfl) (fun _ _ _ h => h) (by rfl) hHeld ?_
            try simp only [Act.put, sI, sZ, sS]
            refine pass_op (i := 27) (d := 39) rfl rfl (by kernel_rfl) (by kernel_rfl) (by kernel_rfl) (fun _ _ _ h => h) (by rfl) hHeld ?_
            try simp only [Act.put, sI, sZ, sS]
            refine pass_op (i := 28) (d := 40) rfl rfl (by kernel_rfl) (by kernel_rfl) (by kernel_rfl) (fun _ _ _ h => h) (by rfl) hHeld ?_
            try simp only [Act.put, sI, sZ, sS]
            refine pass_op (i := 29) (d := 41) rfl rfl (by kernel_rfl) (by kernel_rfl) (by kernel_rfl) (fun _ _ _ h => h) (by rfl) hHeld ?_
            try simp only [Act.put, sI, sZ, sS]
            refine pass_op (i := 30) (d := 42) rfl rfl (by kernel_rfl) (by kernel_rfl) (by kernel_rfl) (fun _ _ _ h => h) (by rfl) hHeld ?_
            try simp only [Act.put, sI, sZ, sS]
            refine pass_op (i := 31) (d := 43) rfl rfl (by kernel_rfl) (by kernel_rfl) (by kernel_rfl) (fun _ _ _ h => h) (by rfl) hHeld ?_
            try simp only [Act.put, sI, sZ, sS]
            refine pass_op (i := 32) (d := 44) rfl rfl (by kernel_rfl) (by kernel_rfl) (by kernel_rfl) (fun _ _ _ h => h) (by rfl) hHeld ?_
            try simp only [Act.put, sI, sZ, sS]
            refine pass_op (i := 33) (d := 45) rfl rfl (by kernel_rfl) (by kernel_rfl) (by kernel_rfl) (fun _ _ _ h => h) (by rfl) hHeld ?_
            try simp only [Act.put, sI, sZ, sS]
            refine pass_op (i := 34) (d := 46) rfl rfl (by kernel_rfl) (by kernel_rfl) (by kernel_rfl) (fun _ _ _ h => h) (by rfl) hHeld ?_
            try simp only [Act.put, sI, sZ, sS]
            refine pass_op (i := 35) (d := 47) rfl rfl (by kernel_rfl) (by kernel_rfl) (by kernel_rfl) (fun _ _ _ h => h) (by rfl) hHeld ?_
            try simp only [Act.put, sI, sZ, sS]
            refine pass_op (i := 36) (d := 48) rfl rfl (by kernel_rfl) (by kernel_rfl) (by kernel_rfl) (fun _ _ _ h => h) (by rfl) hHeld ?_
            try simp only [Act.put, sI, sZ, sS]
            refine pass_op (i := 37) (d := 49) rfl rfl (by kernel_rfl) (by kernel_rfl) (by kernel_rfl) (fun _ _ _ h => h) (by rfl) hHeld ?_
            try simp only [Act.put, sI, sZ, sS]
            refine pass_op (i := 38) (d := 50) rfl rfl (by kernel_rfl) (by kernel_rfl) (by kernel_rfl) (fun _ _ _ h => h) (by rfl) hHeld ?_
            try simp only [Act.put, sI, sZ, sS]
            refine pass_op (i := 39) (d := 51) rfl rfl (by kernel_rfl) (by kernel_rfl) (by kernel_rfl) (fun _ _ _ h => h) (by rfl) hHeld ?_
            try simp only [Act.put, sI, sZ, sS]
            refine pass_op (i := 40) (d := 52) rfl rfl (by kernel_rfl) (by kernel_rfl) (by kernel_rfl) (fun _ _ _ h => h) (by rfl) hHeld ?_
            try simp only [Act.put, sI, sZ, sS]
            refine pass_op (i := 41) (d := 53) rfl rfl (by kernel_rfl) (by kernel_rfl) (by kernel_rfl) (fun _ _ _ h => h) (by rfl) hHeld ?_
            try simp only [Act.put, sI, sZ, sS]
            refine take_op (i := 42) (d := 54) (OP := Op.pick (Operand.tmp 29) (Operand.const (Value.bool true)) (Operand.tmp 53)) (T := 4) (v := ?v18) rfl rfl rfl rfl (by kernel_rfl) (by kernel_rfl) (by kernel_rfl) (fun _ _ _ h => h) (by rfl) ?h18 hHeld ?r18
            case h18 => (intro w' hSw; (try dsimp only at hSw); go_simp <;> with_reducible rfl)
            try simp only [Act.put, sI, sZ, sS]
            refine take_op (i := 43) (d := 55) (OP := Op.pick (Operand.tmp 16) (Operand.tmp 54) (Operand.const (Value.bool false))) (T := 4) (v := ?v19) rfl rfl rfl rfl (by kernel_rfl) (by kernel_rfl) (by kernel_rfl) (fun _ _ _ h => h) (by rfl) ?h19 hHeld ?r19
            case h19 => (intro w' hSw; (try dsimp only at hSw); go_simp <;> with_reducible rfl)
            try simp only [Act.put, sI, sZ, sS]
            refine wpAnyH_done (by kernel_rfl) ?_ _
            have H9 := hide HW5.out
            clear HS hcall HW5
            go_wp2
            go_roundw
            case rel => exact ⟨n + 1, by go_num, by omega, hide H9.out⟩
            case measure => simp [intOf]; omega
          · obtain ⟨cv, hcv⟩ : ∃ cv, cv = cmpT (g', r', lb', m', ix') (g, r, lb, m, ix) := ⟨_, rfl⟩
            have hge : ¬ cv < 0 := by
              have hnP : n = P := by omega
              have h1 := posE_at _ out ((g', r', lb', m', ix'), y') (by rw [← HP.out, ← hnP]; exact hq)
              dsimp only at h1
              rw [← hcv] at h1
              have := ord_T.range (g', r', lb', m', ix') (g, r, lb, m, ix)
              rw [← hcv] at this
              omega
            have heq := fun W => run_eq52' (g', r', lb', m', ix') (g, r, lb, m, ix) W
            rw [decide_eq_false hqok.2] at heq
            rw [← hcv] at hcall
            clear hcv hq hqok
            dsimp only [svT, sv] at heq hcall
            go_upto_region 6 with fail
            refine wp_region_held_drew (S := (fun w' => w'.cell? ⟨gb, goff + n * 6, none⟩ = some (.int .i64 g') ∧ w'.cell? ⟨gb, goff + n * 6 + 1, none⟩ = some (.int .i64 r') ∧ w'.cell? ⟨gb, goff + n * 6 + 2, none⟩ = some (.string lb') ∧ w'.cell? ⟨gb, goff + n * 6 + 3, none⟩ = some (.int .i64 m') ∧ w'.cell? ⟨gb, goff + n * 6 + 4, none⟩ = some (.int .i64 ix') ∧ w'.cell? ⟨b, off + i * 6, none⟩ = some (.int .i64 g) ∧ w'.cell? ⟨b, off + i * 6 + 1, none⟩ = some (.int .i64 r) ∧ w'.cell? ⟨b, off + i * 6 + 2, none⟩ = some (.string lb) ∧ w'.cell? ⟨b, off + i * 6 + 3, none⟩ = some (.int .i64 m) ∧ w'.cell? ⟨b, off + i * 6 + 4, none⟩ = some (.int .i64 ix))) (by kernel_rfl) (by exact HS.out _ (drew_below wr)) (fun hHeld => ?_)
            try dsimp only at hHeld
            refine take_op (i := 0) (d := 12) (OP := Op.move (Operand.tmp 5)) (T := 3) (v := ?v20) rfl rfl rfl rfl (by kernel_rfl) (by kernel_rfl) (by kernel_rfl) (fun _ _ _ h => h) (by rfl) ?h20 hHeld ?r20
            case h20 => (intro w' hSw; (try dsimp only at hSw); go_simp <;> with_reducible rfl)
            try simp only [Act.put, sI, sZ, sS]
            refine take_op (i := 1) (d := 13) (OP := Op.move (Operand.tmp 3)) (T := 22) (v := ?v21) rfl rfl rfl rfl (by kernel_rfl) (by kernel_rfl) (by kernel_rfl) (fun _ _ _ h => h) (by rfl) ?h21 hHeld ?r21
            case h21 => (intro w' hSw; (try dsimp only at hSw); go_simp <;> with_reducible rfl)
            try simp only [Act.put, sI, sZ, sS]
            refine take_op (i := 2) (d := 14) (OP := Op.call { callee := Callee.builtin Builtin.len, args := #[Operand.tmp 13], argTypes := #[22] }) (T := 3) (v := ?v22) rfl rfl rfl rfl (by kernel_rfl) (by kernel_rfl) (by kernel_rfl) (fun _ _ _ h => h) (by rfl) ?h22 hHeld ?r22
            case h22 => (intro w' hSw; (try dsimp only at hSw); go_simp <;> with_reducible rfl)
            try simp only [Act.put, sI, sZ, sS]
            refine take_op (i := 3) (d := 15) (OP := Op.binOp BinOp.lss 3 (Operand.tmp 12) (Operand.tmp 14) 3) (T := 4) (v := ?v23) rfl rfl rfl rfl (by kernel_rfl) (by kernel_rfl) (by kernel_rfl) (fun _ _ _ h => h) (by rfl) ?h23 hHeld ?r23
            case h23 => (intro w' hSw; (try dsimp only at hSw); go_simp <;> with_reducible rfl)
            try simp only [Act.put, sI, sZ, sS]
            refine take_op (i := 4) (d := 16) (OP := Op.move (Operand.tmp 15)) (T := 4) (v := ?v24) rfl rfl rfl rfl (by kernel_rfl) (by kernel_rfl) (by kernel_rfl) (fun _ _ _ h => h) (by rfl) ?h24 hHeld ?r24
            case h24 => (intro w' hSw; (try dsimp only at hSw); go_simp <;> with_reducible rfl)
            try simp only [Act.put, sI, sZ, sS]
            refine take_op (i := 5) (d := 17) (OP := Op.move (Operand.tmp 3)) (T := 22) (v := ?v25) rfl rfl rfl rfl (by kernel_rfl) (by kernel_rfl) (by kernel_rfl) (fun _ _ _ h => h) (by rfl) ?h25 hHeld ?r25
            case h25 => (intro w' hSw; (try dsimp only at hSw); go_simp <;> with_reducible rfl)
            try simp only [Act.put, sI, sZ, sS]
            refine take_op (i := 6) (d := 18) (OP := Op.move (Operand.tmp 5)) (T := 3) (v := ?v26) rfl rfl rfl rfl (by kernel_rfl) (by kernel_rfl) (by kernel_rfl) (fun _ _ _ h => h) (by rfl) ?h26 hHeld ?r26
            case h26 => (intro w' hSw; (try dsimp only at hSw); go_simp <;> with_reducible rfl)
            try simp only [Act.put, sI, sZ, sS]
            refine take_op (i := 7) (d := 19) (OP := Op.indexAddr 22 (Operand.tmp 17) (Operand.tmp 18)) (T := 0) (v := ?v27) rfl rfl rfl rfl (by kernel_rfl) (by kernel_rfl) (by kernel_rfl) (fun _ _ _ h => h) (by rfl) ?h27 hHeld ?r27
            case h27 => (intro w' hSw; (try dsimp only at hSw); go_simp <;> with_reducible rfl)
            try simp only [Act.put, sI, sZ, sS]
            refine take_op (i := 8) (d := 20) (OP := Op.fieldAddr 53 (Operand.tmp 19) 0) (T := 0) (v := ?v28) rfl rfl rfl rfl (by kernel_rfl) (by kernel_rfl) (by kernel_rfl) (fun _ _ _ h => h) (by rfl) ?h28 hHeld ?r28
            case h28 => (intro w' hSw; (try dsimp only at hSw); go_simp <;> with_reducible rfl)
            try simp only [Act.put, sI, sZ, sS]
            refine take_op (i := 9) (d := 21) (OP := Op.load 43 (Operand.tmp 20)) (T := 43) (v := ?v29) rfl rfl rfl rfl (by kernel_rfl) (by kernel_rfl) (by kernel_rfl) (fun _ _ _ h => h) (by rfl) ?h29 hHeld ?r29
            case h29 => (intro w' hSw; (try dsimp only at hSw); go_simp <;> with_reducible rfl)
            try simp only [Act.put, sI, sZ, sS]
            refine take_op (i := 10) (d := 22) (OP := Op.move (Operand.tmp 0)) (T := 22) (v := ?v30) rfl rfl rfl rfl (by kernel_rfl) (by kernel_rfl) (by kernel_rfl) (fun _ _ _ h => h) (by rfl) ?h30 hHeld ?r30
            case h30 => (intro w' hSw; (try dsimp only at hSw); go_simp <;> with_reducible rfl)
            try simp only [Act.put, sI, sZ, sS]
            refine take_op (i := 11) (d := 23) (OP := Op.move (Operand.tmp 4)) (T := 3) (v := ?v31) rfl rfl rfl rfl (by kernel_rfl) (by kernel_rfl) (by kernel_rfl) (fun _ _ _ h => h) (by rfl) ?h31 hHeld ?r31
            case h31 => (intro w' hSw; (try dsimp only at hSw); go_simp <;> with_reducible rfl)
            try simp only [Act.put, sI, sZ, sS]
            refine take_op (i := 12) (d := 24) (OP := Op.indexAddr 22 (Operand.tmp 22) (Operand.tmp 23)) (T := 0) (v := ?v32) rfl rfl rfl rfl (by kernel_rfl) (by kernel_rfl) (by kernel_rfl) (fun _ _ _ h => h) (by rfl) ?h32 hHeld ?r32
            case h32 => (intro w' hSw; (try dsimp only at hSw); go_simp <;> with_reducible rfl)
            try simp only [Act.put, sI, sZ, sS]
            refine take_op (i := 13) (d := 25) (OP := Op.fieldAddr 53 (Operand.tmp 24) 0) (T := 0) (v := ?v33) rfl rfl rfl rfl (by kernel_rfl) (by kernel_rfl) (by kernel_rfl) (fun _ _ _ h => h) (by rfl) ?h33 hHeld ?r33
            case h33 => (intro w' hSw; (try dsimp only at hSw); go_simp <;> with_reducible rfl)
            try simp only [Act.put, sI, sZ, sS]
            refine take_op (i := 14) (d := 26) (OP := Op.load 43 (Operand.tmp 25)) (T := 43) (v := ?v34) rfl rfl rfl rfl (by kernel_rfl) (by kernel_rfl) (by kernel_rfl) (fun _ _ _ h => h) (by rfl) ?h34 hHeld ?r34
            case h34 => (intro w' hSw; (try dsimp only at hSw); go_simp <;> with_reducible rfl)
            try simp only [Act.put, sI, sZ, sS]
            refine call_op (i := 15) (d := 27) (OP := Op.call { callee := Callee.value (Operand.func 114), args := #[Operand.tmp 21, Operand.tmp 26], argTypes := #[43, 43] }) (T := 3) (f := 114) (args := #[.agg #[.int .i64 g', .int .i64 r', .string lb', .int .i64 m', .int .i64 ix'], .agg #[.int .i64 g, .int .i64 r, .string lb, .int .i64 m, .int .i64 ix]]) rfl rfl rfl rfl (by kernel_rfl) (by rfl) (by go_simp) ?_
            refine (hcall _).mono ?_
            rintro e w5 ⟨rfl, b5⟩
            have bb5 := (drew_below wr).trans (b5.mono (drew_below wr).size)
            have q5 := HS.out w5 bb5
            have HW5 := hide (HI.out.trans (bb5.mono hs1))
            clear b5 bb5
            refine ⟨_, rfl, q5, ?_⟩
            replace hHeld := q5
            try simp only [Act.put, sI, sZ, sS]
            refine take_op (i := 16) (d := 28) (OP := Op.binOp BinOp.lss 3 (Operand.tmp 27) (Operand.const (Value.int IntKind.i64 0)) 3) (T := 4) (v := ?v35) rfl rfl rfl rfl (by kernel_rfl) (by kernel_rfl) (by kernel_rfl) (fun _ _ _ h => h) (by rfl) ?h35 hHeld ?r35
            case h35 => (intro w' hSw; (try dsimp only at hSw); go_simp <;> with_reducible rfl)
            try simp only [Act.put, sI, sZ, sS]
            refine take_op (i := 17) (d := 29) (OP := Op.move (Operand.tmp 28)) (T := 4) (v := ?v36) rfl rfl rfl rfl (by kernel_rfl) (by kernel_rfl) (by kernel_rfl) (fun _ _ _ h => h) (by rfl) ?h36 hHeld ?r36
            case h36 => (intro w' hSw; (try dsimp only at hSw); go_simp <;> with_reducible rfl)
            try simp only [Act.put, sI, sZ, sS]
            refine take_op (i := 18) (d := 30) (OP := Op.move (Operand.tmp 3)) (T := 22) (v := ?v37) rfl rfl rfl rfl (by kernel_rfl) (by kernel_rfl) (by kernel_rfl) (fun _ _ _ h => h) (by rfl) ?h37 hHeld ?r37
            case h37 => (intro w' hSw; (try dsimp only at hSw); go_simp <;> with_reducible rfl)
            try simp only [Act.put, sI, sZ, sS]
            refine take_op (i := 19) (d := 31) (OP := Op.move (Operand.tmp 5)) (T := 3) (v := ?v38) rfl rfl rfl rfl (by kernel_rfl) (by kernel_rfl) (by kernel_rfl) (fun _ _ _ h => h) (by rfl) ?h38 hHeld ?r38
            case h38 => (intro w' hSw; (try dsimp only at hSw); go_simp <;> with_reducible rfl)
            try simp only [Act.put, sI, sZ, sS]
            refine take_op (i := 20) (d := 32) (OP := Op.indexAddr 22 (Operand.tmp 30) (Operand.tmp 31)) (T := 0) (v := ?v39) rfl rfl rfl rfl (by kernel_rfl) (by kernel_rfl) (by kernel_rfl) (fun _ _ _ h => h) (by rfl) ?h39 hHeld ?r39
            case h39 => (intro w' hSw; (try dsimp only at hSw); go_simp <;> with_reducible rfl)
            try simp only [Act.put, sI, sZ, sS]
            refine take_op (i := 21) (d := 33) (OP := Op.fieldAddr 53 (Operand.tmp 32) 0) (T := 0) (v := ?v40) rfl rfl rfl rfl (by kernel_rfl) (by kernel_rfl) (by kernel_rfl) (fun _ _ _ h => h) (by rfl) ?h40 hHeld ?r40
            case h40 => (intro w' hSw; (try dsimp only at hSw); go_simp <;> with_reducible rfl)
            try simp only [Act.put, sI, sZ, sS]
            refine take_op (i := 22) (d := 34) (OP := Op.load 43 (Operand.tmp 33)) (T := 43) (v := ?v41) rfl rfl rfl rfl (by kernel_rfl) (by kernel_rfl) (by kernel_rfl) (fun _ _ _ h => h) (by rfl) ?h41 hHeld ?r41
            case h41 => (intro w' hSw; (try dsimp only at hSw); go_simp <;> with_reducible rfl)
            try simp only [Act.put, sI, sZ, sS]
            refine take_op (i := 23) (d := 35) (OP := Op.move (Operand.tmp 0)) (T := 22) (v := ?v42) rfl rfl rfl rfl (by kernel_rfl) (by kernel_rfl) (by kernel_rfl) (fun _ _ _ h => h) (by rfl) ?h42 hHeld ?r42
            case h42 => (intro w' hSw; (try dsimp only at hSw); go_simp <;> with_reducible rfl)
            try simp only [Act.put, sI, sZ, sS]
            refine take_op (i := 24) (d := 36) (OP := Op.move (Operand.tmp 4)) (T := 3) (v := ?v43) rfl rfl rfl rfl (by kernel_rfl) (by kernel_rfl) (by kernel_rfl) (fun _ _ _ h => h) (by rfl) ?h43 hHeld ?r43
            case h43 => (intro w' hSw; (try dsimp only at hSw); go_simp <;> with_reducible rfl)
            try simp only [Act.put, sI, sZ, sS]
            refine take_op (i := 25) (d := 37) (OP := Op.indexAddr 22 (Operand.tmp 35) (Operand.tmp 36)) (T := 0) (v := ?v44) rfl rfl rfl rfl (by kernel_rfl) (by kernel_rfl) (by kernel_rfl) (fun _ _ _ h => h) (by rfl) ?h44 hHeld ?r44
            case h44 => (intro w' hSw; (try dsimp only at hSw); go_simp <;> with_reducible rfl)
            try simp only [Act.put, sI, sZ, sS]
            refine take_op (i := 26) (d := 38) (OP := Op.fieldAddr 53 (Operand.tmp 37) 0) (T := 0) (v := ?v45) rfl rfl rfl rfl (by kernel_rfl) (by kernel_rfl) (by kernel_rfl) (fun _ _ _ h => h) (by rfl) ?h45 hHeld ?r45
            case h45 => (intro w' hSw; (try dsimp only at hSw); go_simp <;> with_reducible rfl)
            try simp only [Act.put, sI, sZ, sS]
            refine take_op (i := 27) (d := 39) (OP := Op.load 43 (Operand.tmp 38)) (T := 43) (v := ?v46) rfl rfl rfl rfl (by kernel_rfl) (by kernel_rfl) (by kernel_rfl) (fun _ _ _ h => h) (by rfl) ?h46 hHeld ?r46
            case h46 => (intro w' hSw; (try dsimp only at hSw); go_simp <;> with_reducible rfl)
            try simp only [Act.put, sI, sZ, sS]
            refine take_op (i := 28) (d := 40) (OP := Op.binOp BinOp.eql 43 (Operand.tmp 34) (Operand.tmp 39) 43) (T := 4) (v := ?v47) rfl rfl rfl rfl (by kernel_rfl) (by kernel_rfl) (by kernel_rfl) (fun _ _ _ h => h) (by rfl) ?h47 hHeld ?r47
            case h47 => (intro w' hSw; (try dsimp only at hSw); go_simp <;> with_reducible rfl)
            try simp only [Act.put, sI, sZ, sS]
            refine take_op (i := 29) (d := 41) (OP := Op.move (Operand.tmp 40)) (T := 4) (v := ?v48) rfl rfl rfl rfl (by kernel_rfl) (by kernel_rfl) (by kernel_rfl) (fun _ _ _ h => h) (by rfl) ?h48 hHeld ?r48
            case h48 => (intro w' hSw; (try dsimp only at hSw); go_simp <;> with_reducible rfl)
            try simp only [Act.put, sI, sZ, sS]
            refine pass_op (i := 30) (d := 42) rfl rfl (by kernel_rfl) (by kernel_rfl) (by kernel_rfl) (fun _ _ _ h => h) (by rfl) hHeld ?_
            try simp only [Act.put, sI, sZ, sS]
            refine pass_op (i := 31) (d := 43) rfl rfl (by kernel_rfl) (by kernel_rfl) (by kernel_rfl) (fun _ _ _ h => h) (by rfl) hHeld ?_
            try simp only [Act.put, sI, sZ, sS]
            refine pass_op (i := 32) (d := 44) rfl rfl (by kernel_rfl) (by kernel_rfl) (by kernel_rfl) (fun _ _ _ h => h) (by rfl) hHeld ?_
            try simp only [Act.put, sI, sZ, sS]
            refine pass_op (i := 33) (d := 45) rfl rfl (by kernel_rfl) (by kernel_rfl) (by kernel_rfl) (fun _ _ _ h => h) (by rfl) hHeld ?_
            try simp only [Act.put, sI, sZ, sS]
            refine pass_op (i := 34) (d := 46) rfl rfl (by kernel_rfl) (by kernel_rfl) (by kernel_rfl) (fun _ _ _ h => h) (by rfl) hHeld ?_
            try simp only [Act.put, sI, sZ, sS]
            refine pass_op (i := 35) (d := 47) rfl rfl (by kernel_rfl) (by kernel_rfl) (by kernel_rfl) (fun _ _ _ h => h) (by rfl) hHeld ?_
            try simp only [Act.put, sI, sZ, sS]
            refine pass_op (i := 36) (d := 48) rfl rfl (by kernel_rfl) (by kernel_rfl) (by kernel_rfl) (fun _ _ _ h => h) (by rfl) hHeld ?_
            try simp only [Act.put, sI, sZ, sS]
            refine pass_op (i := 37) (d := 49) rfl rfl (by kernel_rfl) (by kernel_rfl) (by kernel_rfl) (fun _ _ _ h => h) (by rfl) hHeld ?_
            try simp only [Act.put, sI, sZ, sS]
            refine pass_op (i := 38) (d := 50) rfl rfl (by kernel_rfl) (by kernel_rfl) (by kernel_rfl) (fun _ _ _ h => h) (by rfl) hHeld ?_
            try simp only [Act.put, sI, sZ, sS]
            refine pass_op (i := 39) (d := 51) rfl rfl (by kernel_rfl) (by kernel_rfl) (by kernel_rfl) (fun _ _ _ h => h) (by rfl) hHeld ?_
            try simp only [Act.put, sI, sZ, sS]
            refine pass_op (i := 40) (d := 52) rfl rfl (by kernel_rfl) (by kernel_rfl) (by kernel_rfl) (fun _ _ _ h => h) (by rfl) hHeld ?_
            try simp only [Act.put, sI, sZ, sS]
            refine take_op (i := 41) (d := 53) (OP := Op.pick (Operand.tmp 41) (Operand.tmp 52) (Operand.const (Value.bool false))) (T := 4) (v := ?v49) rfl rfl rfl rfl (by kernel_rfl) (by kernel_rfl) (by kernel_rfl) (fun _ _ _ h => h) (by rfl) ?h49 hHeld ?r49
            case h49 => (intro w' hSw; (try dsimp only at hSw); go_simp <;> with_reducible rfl)
            try simp only [Act.put, sI, sZ, sS]
            refine take_op (i := 42) (d := 54) (OP := Op.pick (Operand.tmp 29) (Operand.const (Value.bool true)) (Operand.tmp 53)) (T := 4) (v := ?v50) rfl rfl rfl rfl (by kernel_rfl) (by kernel_rfl) (by kernel_rfl) (fun _ _ _ h => h) (by rfl) ?h50 hHeld ?r50
            case h50 => (intro w' hSw; (try dsimp only at hSw); go_simp <;> with_reducible rfl)
            try simp only [Act.put, sI, sZ, sS]
            refine take_op (i := 43) (d := 55) (OP := Op.pick (Operand.tmp 16) (Operand.tmp 54) (Operand.const (Value.bool false))) (T := 4) (v := ?v51) rfl rfl rfl rfl (by kernel_rfl) (by kernel_rfl) (by kernel_rfl) (fun _ _ _ h => h) (by rfl) ?h51 hHeld ?r51
            case h51 => (intro w' hSw; (try dsimp only at hSw); go_simp <;> with_reducible rfl)
            try simp only [Act.put, sI, sZ, sS]
            refine wpAnyH_done (by kernel_rfl) ?_ _
            have HQ := hide HW5.out
            clear HS hcall heq hge HW5
            obtain ⟨wq, hwq⟩ : ∃ q, w5 = q := ⟨_, rfl⟩
            rw [hwq] at HQ ⊢
            clear hwq
            have hfin : insL [] (l.take (i + 1)) = out.take n ++ [((g, r, lb, m, ix), y)] ++ out.drop n := by
              have hnP : n = posE ((g, r, lb, m, ix), y) out := by rw [← HP.out]; omega
              rw [HX.out.2, hnP]; rfl
            have HF := hide hfin
            have HZ := HQ
            obtain ⟨wz, hwz⟩ : ∃ q, wq = q := ⟨_, rfl⟩
            clear hfin HQ
            go_upto_region 8 with fail
            rw [hwz] at HZ ⊢
            clear hwz
            obtain ⟨hro, hspot, hzc⟩ := HO.out.reo
            have hOz := hro.below HZ.out
            have hc3 : out.length ≤ c3 := HR.out.2.2.2
            have hnl : n ≤ out.length := by omega
            obtain ⟨A1, r1, q1, m1⟩ := slice_hi hOz hnl hc3 hspot
            obtain ⟨A2, r2, q2, m2⟩ := slice_lo hOz hnl hc3 hspot
            obtain ⟨b', off', e', f0, f1, f2, f3, f4, f5⟩ := (HR.out.1.below HZ.out).cells HX.out.1
            injection e' with e'
            injection e' with e1 e2
            subst e1 e2
            simp only at f0 f1 f2 f3 f4 f5
            have hbz : b < wz.heap.size := World.block_lt_of_cell? _ _ f0
            have hl1 : (out.take n).length = n := by rw [List.length_take]; omega
            have hl2 : (out.drop n).length = out.length - n := by rw [List.length_drop]
            have hap1 : ∀ W, Below wz.heap.size wz W → ∃ v9 w9, (Builtin.append_ #[22, 22] 22 #[.slice none 0 0, .slice A1 n c3]).run Tryz.prog W = .ok v9 w9 ∧ Oe w9 wz.heap.size v9 (out.take n) ∧ Below W.heap.size W w9 := fun W hW => by
              obtain ⟨a', c', w', h1, h2, h3⟩ := app_elems (Oe.nil W W.heap.size) (fun e => hzc (m1 e)) (q1.below hW) (by simp; omega) (Nat.le_refl _)
              rw [hl1] at h1
              exact ⟨_, w', h1, h2.lift hW.size, h3⟩
            have hap2 : ∀ (W : World) (v : Value) (R : Nat), Below wz.heap.size wz W → Oe W wz.heap.size v (out.take n) → Re W (some ⟨R, 0, none⟩) [((g, r, lb, m, ix), y)] → ∃ v9 w9, (Builtin.append_ #[22, 22] 22 #[v, .slice (some ⟨R, 0, none⟩) 1 1]).run Tryz.prog W = .ok v9 w9 ∧ Oe w9 wz.heap.size v9 (out.take n ++ [((g, r, lb, m, ix), y)]) ∧ Below wz.heap.size W w9 := fun W v R hW ho hr => by
              obtain ⟨a', c', w', h1, h2, h3⟩ := app_elems (c := 1) ho (by simp) hr (by simp; omega) hW.size
              exact ⟨_, w', h1, h2, h3⟩
            have hap3 : ∀ (W : World) (v : Value), Below wz.heap.size wz W → Oe W wz.heap.size v (out.take n ++ [((g, r, lb, m, ix), y)]) → ∃ v9 w9, (Builtin.append_ #[22, 22] 22 #[v, .slice A2 (out.length - n) (c3 - n)]).run Tryz.prog W = .ok v9 w9 ∧ Oe w9 wz.heap.size v9 (out.take n ++ [((g, r, lb, m, ix), y)] ++ out.drop n) ∧ Below wz.heap.size W w9 := fun W v hW ho => by
              obtain ⟨a', c', w', h1, h2, h3⟩ := app_elems (c := c3 - n) ho (fun e => by rw [hzc (m2 e)]; simp) (q2.below hW) (by simp; omega) hW.size
              rw [hl2] at h1
              exact ⟨_, w', h1, h2, h3⟩
            clear hro hOz q1 q2 m1 m2 hl1 hl2 hspot hzc
            refine wp_region_held_drew (S := (fun w' => Below wz.heap.size wz w')) (by kernel_rfl) (by exact (Below.refl _ wz).drew) (fun hHeld => ?_)
            try dsimp only at hHeld
            generalize wz.drew = W1 at hHeld ⊢
            refine take_op (i := 0) (d := 58) (OP := Op.move (Operand.tmp 3)) (T := 22) (v := ?vsy52) rfl rfl rfl rfl (by kernel_rfl) (by kernel_rfl) (by kernel_rfl) (fun _ _ _ h => h) (by rfl) ?hsy52 hHeld ?rsy52
            case hsy52 => (intro w' hSw; (try dsimp only at hSw); go_simp <;> with_reducible rfl)
            try simp only [Act.put, sI, sZ, sS]
            refine take_op (i := 1) (d := 59) (OP := Op.move (Operand.tmp 5)) (T := 3) (v := ?vsy53) rfl rfl rfl rfl (by kernel_rfl) (by kernel_rfl) (by kernel_rfl) (fun _ _ _ h => h) (by rfl) ?hsy53 hHeld ?rsy53
            case hsy53 => (intro w' hSw; (try dsimp only at hSw); go_simp <;> with_reducible rfl)
            try simp only [Act.put, sI, sZ, sS]
            refine take_op (i := 2) (d := 60) (OP := Op.slice 22 (Operand.tmp 58) none (some (Operand.tmp 59)) none) (T := 22) (v := .slice A1 n c3) rfl rfl rfl rfl (by kernel_rfl) (by kernel_rfl) (by kernel_rfl) (fun _ _ _ h => h) (by rfl) (fun w' _ => exec_slhi rfl rfl (r1 w')) hHeld ?_
            try simp only [Act.put, sI, sZ, sS]
            refine take_op (i := 4) (d := 62) (OP := Op.move (Operand.tmp 0)) (T := 22) (v := ?vsy54) rfl rfl rfl rfl (by kernel_rfl) (by kernel_rfl) (by kernel_rfl) (fun _ _ _ h => h) (by rfl) ?hsy54 hHeld ?rsy54
            case hsy54 => (intro w' hSw; (try dsimp only at hSw); go_simp <;> with_reducible rfl)
            try simp only [Act.put, sI, sZ, sS]
            refine take_op (i := 5) (d := 63) (OP := Op.move (Operand.tmp 4)) (T := 3) (v := ?vsy55) rfl rfl rfl rfl (by kernel_rfl) (by kernel_rfl) (by kernel_rfl) (fun _ _ _ h => h) (by rfl) ?hsy55 hHeld ?rsy55
            case hsy55 => (intro w' hSw; (try dsimp only at hSw); go_simp <;> with_reducible rfl)
            try simp only [Act.put, sI, sZ, sS]
            refine take_op (i := 6) (d := 64) (OP := Op.indexAddr 22 (Operand.tmp 62) (Operand.tmp 63)) (T := 0) (v := .pointer (some ⟨b, off + i * 6, none⟩)) rfl rfl rfl rfl (by kernel_rfl) (by kernel_rfl) (by kernel_rfl) (fun _ _ _ h => h) (by rfl) (fun w' _ => exec_ixE rfl rfl z1) hHeld ?_
            try simp only [Act.put, sI, sZ, sS]
            refine take_op (i := 7) (d := 65) (OP := Op.load 53 (Operand.tmp 64)) (T := 53) (v := ev ((g, r, lb, m, ix), y)) rfl rfl rfl rfl (by kernel_rfl) (by kernel_rfl) (by kernel_rfl) (fun _ _ _ h => h) (by rfl) (fun w' hSw => exec_ld53 rfl ((hSw.cell hbz).trans f0) ((hSw.cell hbz).trans f1) ((hSw.cell hbz).trans f2) ((hSw.cell hbz).trans f3) ((hSw.cell hbz).trans f4) ((hSw.cell hbz).trans f5)) hHeld ?_
            try simp only [Act.put, sI, sZ, sS]
            refine take_op (i := 10) (d := 68) (OP := Op.move (Operand.tmp 3)) (T := 22) (v := ?vsy56) rfl rfl rfl rfl (by kernel_rfl) (by kernel_rfl) (by kernel_rfl) (fun _ _ _ h => h) (by rfl) ?hsy56 hHeld ?rsy56
            case hsy56 => (intro w' hSw; (try dsimp only at hSw); go_simp <;> with_reducible rfl)
            try simp only [Act.put, sI, sZ, sS]
            refine take_op (i := 11) (d := 69) (OP := Op.move (Operand.tmp 5)) (T := 3) (v := ?vsy57) rfl rfl rfl rfl (by kernel_rfl) (by kernel_rfl) (by kernel_rfl) (fun _ _ _ h => h) (by rfl) ?hsy57 hHeld ?rsy57
            case hsy57 => (intro w' hSw; (try dsimp only at hSw); go_simp <;> with_reducible rfl)
            try simp only [Act.put, sI, sZ, sS]
            refine take_op (i := 12) (d := 70) (OP := Op.slice 22 (Operand.tmp 68) (some (Operand.tmp 69)) none none) (T := 22) (v := .slice A2 (out.length - n) (c3 - n)) rfl rfl rfl rfl (by kernel_rfl) (by kernel_rfl) (by kernel_rfl) (fun _ _ _ h => h) (by rfl) (fun w' _ => exec_sllo rfl rfl (r2 w')) hHeld ?_
            try simp only [Act.put, sI, sZ, sS]
            obtain ⟨v9, w9, run9, hO9, b9⟩ := hap1 W1 hHeld
            have hS9 : Below wz.heap.size wz w9 := hHeld.trans (b9.mono hHeld.size)
            have hSl : Below wz.heap.size wz (W1.alloc (.cells (encE ((g, r, lb, m, ix), y)).toArray 53)) := hHeld.alloc hHeld.size _
            refine turn2_op (i := 3) (di := 61) (OPi := Op.call { callee := Callee.builtin Builtin.append, args := #[Operand.const (Value.slice none 0 0), Operand.tmp 60], argTypes := #[22, 22] }) (Ti := 22) (j := 8) (dj := 66) (OPj := Op.buildSlice 22 1 #[(0, Operand.tmp 65)]) (Tj := 22) (v := v9) (wi := w9) (u := .slice (some ⟨W1.heap.size, 0, none⟩) 1 1) (wj := W1.alloc (.cells (encE ((g, r, lb, m, ix), y)).toArray 53)) rfl rfl rfl rfl rfl rfl rfl rfl (by kernel_rfl) (by rfl) (by rfl) (exec_append rfl rfl run9) (exec_bs53 rfl) hS9 hSl ?_ ?_
            · try simp only [Act.put, sI, sZ, sS]
              replace hHeld := hS9
              have hS8 : Below wz.heap.size wz (w9.alloc (.cells (encE ((g, r, lb, m, ix), y)).toArray 53)) := hHeld.alloc hHeld.size _
              refine turn_op (i := 8) (d := 66) (OP := Op.buildSlice 22 1 #[(0, Operand.tmp 65)]) (T := 22) (v := .slice (some ⟨w9.heap.size, 0, none⟩) 1 1) (w' := w9.alloc (.cells (encE ((g, r, lb, m, ix), y)).toArray 53)) rfl rfl rfl rfl (by kernel_rfl) (by rfl) (exec_bs53 rfl) hS8 ?_
              replace hHeld := hS8
              try simp only [Act.put, sI, sZ, sS]
              obtain ⟨v10, w10, run10, hO10, b10⟩ := hap2 (w9.alloc (.cells (encE ((g, r, lb, m, ix), y)).toArray 53)) _ w9.heap.size hHeld (hO9.alloc (.cells (encE ((g, r, lb, m, ix), y)).toArray 53)) (one_re w9 ((g, r, lb, m, ix), y))
              have hS10 := hHeld.trans b10
              refine turn_op (i := 9) (d := 67) (OP := Op.call { callee := Callee.builtin Builtin.append, args := #[Operand.tmp 61, Operand.tmp 66], argTypes := #[22, 22] }) (T := 22) (v := v10) (w' := w10) rfl rfl rfl rfl (by kernel_rfl) (by rfl) (exec_append rfl rfl run10) hS10 ?_
              replace hHeld := hS10
              try simp only [Act.put, sI, sZ, sS]
              obtain ⟨v11, w11, run11, hO11, b11⟩ := hap3 w10 _ hHeld hO10
              have hS11 := hHeld.trans b11
              refine turn_op (i := 13) (d := 71) (OP := Op.call { callee := Callee.builtin Builtin.append, args := #[Operand.tmp 67, Operand.tmp 70], argTypes := #[22, 22] }) (T := 22) (v := v11) (w' := w11) rfl rfl rfl rfl (by kernel_rfl) (by rfl) (exec_append rfl rfl run11) hS11 ?_
              replace hHeld := hS11
              try simp only [Act.put, sI, sZ, sS]
              refine take_op (i := 14) (d := 3) (OP := Op.assign (Operand.tmp 71)) (T := 22) (v := ?vsy58) rfl rfl rfl rfl (by kernel_rfl) (by kernel_rfl) (by kernel_rfl) (fun _ _ _ h => h) (by rfl) ?hsy58 hHeld ?rsy58
              case hsy58 => (intro w' hSw; (try dsimp only at hSw); go_simp <;> with_reducible rfl)
              try simp only [Act.put, sI, sZ, sS]
              refine wpAnyH_done (by kernel_rfl) ?_ _
              have H11 : Hid (Oe w11 w.heap.size v11 (insL [] (l.take (i + 1))) ∧ Below w.heap.size w w11) := hide ⟨by rw [HF.out]; exact hO11.lift (Nat.le_trans hsz HZ.out.size), (HW.out.trans (HZ.out.mono hsz)).trans (hS11.mono (Nat.le_trans hsz HZ.out.size))⟩
              clear hap1 hap2 hap3 r1 r2 f0 f1 f2 f3 f4 f5 hO9 b9 run9 hO10 run10 b10 hO11 run11 b11
              go_wp2
              go_roundw
              case rel => exact ⟨i + 1, by go_num, by omega, hide H11.out.1, hide H11.out.2⟩
              case measure => simp [intOf]; omega
            · try simp only [Act.put, sI, sZ, sS]
              clear run9 hO9 b9 hS9 v9 w9
              replace hHeld := hSl
              obtain ⟨v9, w9, run9, hO9, b9⟩ := hap1 _ hHeld
              have hS9 : Below wz.heap.size wz w9 := hHeld.trans (b9.mono hHeld.size)
              refine turn_op (i := 3) (d := 61) (OP := Op.call { callee := Callee.builtin Builtin.append, args := #[Operand.const (Value.slice none 0 0), Operand.tmp 60], argTypes := #[22, 22] }) (T := 22) (v := v9) (w' := w9) rfl rfl rfl rfl (by kernel_rfl) (by rfl) (exec_append rfl rfl run9) hS9 ?_
              replace hHeld := hS9
              try simp only [Act.put, sI, sZ, sS]
              obtain ⟨v10, w10, run10, hO10, b10⟩ := hap2 w9 _ W1.heap.size hHeld hO9 ((one_re W1 ((g, r, lb, m, ix), y)).below b9)
              have hS10 := hHeld.trans b10
              refine turn_op (i := 9) (d := 67) (OP := Op.call { callee := Callee.builtin Builtin.append, args := #[Operand.tmp 61, Operand.tmp 66], argTypes := #[22, 22] }) (T := 22) (v := v10) (w' := w10) rfl rfl rfl rfl (by kernel_rfl) (by rfl) (exec_append rfl rfl run10) hS10 ?_
              replace hHeld := hS10
              try simp only [Act.put, sI, sZ, sS]
              obtain ⟨v11, w11, run11, hO11, b11⟩ := hap3 w10 _ hHeld hO10
              have hS11 := hHeld.trans b11
              refine turn_op (i := 13) (d := 71) (OP := Op.call { callee := Callee.builtin Builtin.append, args := #[Operand.tmp 67, Operand.tmp 70], argTypes := #[22, 22] }) (T := 22) (v := v11) (w' := w11) rfl rfl rfl rfl (by kernel_rfl) (by rfl) (exec_append rfl rfl run11) hS11 ?_
              replace hHeld := hS11
              try simp only [Act.put, sI, sZ, sS]
              refine take_op (i := 14) (d := 3) (OP := Op.assign (Operand.tmp 71)) (T := 22) (v := ?vsy59) rfl rfl rfl rfl (by kernel_rfl) (by kernel_rfl) (by kernel_rfl) (fun _ _ _ h => h) (by rfl) ?hsy59 hHeld ?rsy59
              case hsy59 => (intro w' hSw; (try dsimp only at hSw); go_simp <;> with_reducible rfl)
              try simp only [Act.put, sI, sZ, sS]
              refine wpAnyH_done (by kernel_rfl) ?_ _
              have H11 : Hid (Oe w11 w.heap.size v11 (insL [] (l.take (i + 1))) ∧ Below w.heap.size w w11) := hide ⟨by rw [HF.out]; exact hO11.lift (Nat.le_trans hsz HZ.out.size), (HW.out.trans (HZ.out.mono hsz)).trans (hS11.mono (Nat.le_trans hsz HZ.out.size))⟩
              clear hap1 hap2 hap3 r1 r2 f0 f1 f2 f3 f4 f5 hO9 b9 run9 hO10 run10 b10 hO11 run11 b11
              go_wp2
              go_roundw
              case rel => exact ⟨i + 1, by go_num, by omega, hide H11.out.1, hide H11.out.2⟩
              case measure => simp [intOf]; omega
        · have z2 : ¬ (n : Int) < (out.length : Int) := by omega
          go_upto_region 6 with fail
          go_quiet (fail)
          have HQ := hide (HI.out.trans ((below_drew wr nq).mono HI.out.size))
          generalize wr.drewN nq = wq at HQ ⊢
          have hfin : insL [] (l.take (i + 1)) = out.take n ++ [((g, r, lb, m, ix), y)] ++ out.drop n := by
            have hnP : n = posE ((g, r, lb, m, ix), y) out := by rw [← HP.out]; omega
            rw [HX.out.2, hnP]; rfl
          have HF := hide hfin
          have HZ := HQ
          obtain ⟨wz, hwz⟩ : ∃ q, wq = q := ⟨_, rfl⟩
          clear hfin HQ
          go_upto_region 8 with fail
          rw [hwz] at HZ ⊢
          clear hwz
          obtain ⟨hro, hspot, hzc⟩ := HO.out.reo
          have hOz := hro.below HZ.out
          have hc3 : out.length ≤ c3 := HR.out.2.2.2
          have hnl : n ≤ out.length := by omega
          obtain ⟨A1, r1, q1, m1⟩ := slice_hi hOz hnl hc3 hspot
          obtain ⟨A2, r2, q2, m2⟩ := slice_lo hOz hnl hc3 hspot
          obtain ⟨b', off', e', f0, f1, f2, f3, f4, f5⟩ := (HR.out.1.below HZ.out).cells HX.out.1
          injection e' with e'
          injection e' with e1 e2
          subst e1 e2
          simp only at f0 f1 f2 f3 f4 f5
          have hbz : b < wz.heap.size := World.block_lt_of_cell? _ _ f0
          have hl1 : (out.take n).length = n := by rw [List.length_take]; omega
          have hl2 : (out.drop n).length = out.length - n := by rw [List.length_drop]
          have hap1 : ∀ W, Below wz.heap.size wz W → ∃ v9 w9, (Builtin.append_ #[22, 22] 22 #[.slice none 0 0, .slice A1 n c3]).run Tryz.prog W = .ok v9 w9 ∧ Oe w9 wz.heap.size v9 (out.take n) ∧ Below W.heap.size W w9 := fun W hW => by
            obtain ⟨a', c', w', h1, h2, h3⟩ := app_elems (Oe.nil W W.heap.size) (fun e => hzc (m1 e)) (q1.below hW) (by simp; omega) (Nat.le_refl _)
            rw [hl1] at h1
            exact ⟨_, w', h1, h2.lift hW.size, h3⟩
          have hap2 : ∀ (W : World) (v : Value) (R : Nat), Below wz.heap.size wz W → Oe W wz.heap.size v (out.take n) → Re W (some ⟨R, 0, none⟩) [((g, r, lb, m, ix), y)] → ∃ v9 w9, (Builtin.append_ #[22, 22] 22 #[v, .slice (some ⟨R, 0, none⟩) 1 1]).run Tryz.prog W = .ok v9 w9 ∧ Oe w9 wz.heap.size v9 (out.take n ++ [((g, r, lb, m, ix), y)]) ∧ Below wz.heap.size W w9 := fun W v R hW ho hr => by
            obtain ⟨a', c', w', h1, h2, h3⟩ := app_elems (c := 1) ho (by simp) hr (by simp; omega) hW.size
            exact ⟨_, w', h1, h2, h3⟩
          have hap3 : ∀ (W : World) (v : Value), Below wz.heap.size wz W → Oe W wz.heap.size v (out.take n ++ [((g, r, lb, m, ix), y)]) → ∃ v9 w9, (Builtin.append_ #[22, 22] 22 #[v, .slice A2 (out.length - n) (c3 - n)]).run Tryz.prog W = .ok v9 w9 ∧ Oe w9 wz.heap.size v9 (out.take n ++ [((g, r, lb, m, ix), y)] ++ out.drop n) ∧ Below wz.heap.size W w9 := fun W v hW ho => by
            obtain ⟨a', c', w', h1, h2, h3⟩ := app_elems (c := c3 - n) ho (fun e => by rw [hzc (m2 e)]; simp) (q2.below hW) (by simp; omega) hW.size
            rw [hl2] at h1
            exact ⟨_, w', h1, h2, h3⟩
          clear hro hOz q1 q2 m1 m2 hl1 hl2 hspot hzc
          refine wp_region_held_drew (S := (fun w' => Below wz.heap.size wz w')) (by kernel_rfl) (by exact (Below.refl _ wz).drew) (fun hHeld => ?_)
          try dsimp only at hHeld
          generalize wz.drew = W1 at hHeld ⊢
          refine take_op (i := 0) (d := 58) (OP := Op.move (Operand.tmp 3)) (T := 22) (v := ?vsy60) rfl rfl rfl rfl (by kernel_rfl) (by kernel_rfl) (by kernel_rfl) (fun _ _ _ h => h) (by rfl) ?hsy60 hHeld ?rsy60
          case hsy60 => (intro w' hSw; (try dsimp only at hSw); go_simp <;> with_reducible rfl)
          try simp only [Act.put, sI, sZ, sS]
          refine take_op (i := 1) (d := 59) (OP := Op.move (Operand.tmp 5)) (T := 3) (v := ?vsy61) rfl rfl rfl rfl (by kernel_rfl) (by kernel_rfl) (by kernel_rfl) (fun _ _ _ h => h) (by rfl) ?hsy61 hHeld ?rsy61
          case hsy61 => (intro w' hSw; (try dsimp only at hSw); go_simp <;> with_reducible rfl)
          try simp only [Act.put, sI, sZ, sS]
          refine take_op (i := 2) (d := 60) (OP := Op.slice 22 (Operand.tmp 58) none (some (Operand.tmp 59)) none) (T := 22) (v := .slice A1 n c3) rfl rfl rfl rfl (by kernel_rfl) (by kernel_rfl) (by kernel_rfl) (fun _ _ _ h => h) (by rfl) (fun w' _ => exec_slhi rfl rfl (r1 w')) hHeld ?_
          try simp only [Act.put, sI, sZ, sS]
          refine take_op (i := 4) (d := 62) (OP := Op.move (Operand.tmp 0)) (T := 22) (v := ?vsy62) rfl rfl rfl rfl (by kernel_rfl) (by kernel_rfl) (by kernel_rfl) (fun _ _ _ h => h) (by rfl) ?hsy62 hHeld ?rsy62
          case hsy62 => (intro w' hSw; (try dsimp only at hSw); go_simp <;> with_reducible rfl)
          try simp only [Act.put, sI, sZ, sS]
          refine take_op (i := 5) (d := 63) (OP := Op.move (Operand.tmp 4)) (T := 3) (v := ?vsy63) rfl rfl rfl rfl (by kernel_rfl) (by kernel_rfl) (by kernel_rfl) (fun _ _ _ h => h) (by rfl) ?hsy63 hHeld ?rsy63
          case hsy63 => (intro w' hSw; (try dsimp only at hSw); go_simp <;> with_reducible rfl)
          try simp only [Act.put, sI, sZ, sS]
          refine take_op (i := 6) (d := 64) (OP := Op.indexAddr 22 (Operand.tmp 62) (Operand.tmp 63)) (T := 0) (v := .pointer (some ⟨b, off + i * 6, none⟩)) rfl rfl rfl rfl (by kernel_rfl) (by kernel_rfl) (by kernel_rfl) (fun _ _ _ h => h) (by rfl) (fun w' _ => exec_ixE rfl rfl z1) hHeld ?_
          try simp only [Act.put, sI, sZ, sS]
          refine take_op (i := 7) (d := 65) (OP := Op.load 53 (Operand.tmp 64)) (T := 53) (v := ev ((g, r, lb, m, ix), y)) rfl rfl rfl rfl (by kernel_rfl) (by kernel_rfl) (by kernel_rfl) (fun _ _ _ h => h) (by rfl) (fun w' hSw => exec_ld53 rfl ((hSw.cell hbz).trans f0) ((hSw.cell hbz).trans f1) ((hSw.cell hbz).trans f2) ((hSw.cell hbz).trans f3) ((hSw.cell hbz).trans f4) ((hSw.cell hbz).trans f5)) hHeld ?_
          try simp only [Act.put, sI, sZ, sS]
          refine take_op (i := 10) (d := 68) (OP := Op.move (Operand.tmp 3)) (T := 22) (v := ?vsy64) rfl rfl rfl rfl (by kernel_rfl) (by kernel_rfl) (by kernel_rfl) (fun _ _ _ h => h) (by rfl) ?hsy64 hHeld ?rsy64
          case hsy64 => (intro w' hSw; (try dsimp only at hSw); go_simp <;> with_reducible rfl)
          try simp only [Act.put, sI, sZ, sS]
          refine take_op (i := 11) (d := 69) (OP := Op.move (Operand.tmp 5)) (T := 3) (v := ?vsy65) rfl rfl rfl rfl (by kernel_rfl) (by kernel_rfl) (by kernel_rfl) (fun _ _ _ h => h) (by rfl) ?hsy65 hHeld ?rsy65
          case hsy65 => (intro w' hSw; (try dsimp only at hSw); go_simp <;> with_reducible rfl)
          try simp only [Act.put, sI, sZ, sS]
          refine take_op (i := 12) (d := 70) (OP := Op.slice 22 (Operand.tmp 68) (some (Operand.tmp 69)) none none) (T := 22) (v := .slice A2 (out.length - n) (c3 - n)) rfl rfl rfl rfl (by kernel_rfl) (by kernel_rfl) (by kernel_rfl) (fun _ _ _ h => h) (by rfl) (fun w' _ => exec_sllo rfl rfl (r2 w')) hHeld ?_
          try simp only [Act.put, sI, sZ, sS]
          obtain ⟨v9, w9, run9, hO9, b9⟩ := hap1 W1 hHeld
          have hS9 : Below wz.heap.size wz w9 := hHeld.trans (b9.mono hHeld.size)
          have hSl : Below wz.heap.size wz (W1.alloc (.cells (encE ((g, r, lb, m, ix), y)).toArray 53)) := hHeld.alloc hHeld.size _
          refine turn2_op (i := 3) (di := 61) (OPi := Op.call { callee := Callee.builtin Builtin.append, args := #[Operand.const (Value.slice none 0 0), Operand.tmp 60], argTypes := #[22, 22] }) (Ti := 22) (j := 8) (dj := 66) (OPj := Op.buildSlice 22 1 #[(0, Operand.tmp 65)]) (Tj := 22) (v := v9) (wi := w9) (u := .slice (some ⟨W1.heap.size, 0, none⟩) 1 1) (wj := W1.alloc (.cells (encE ((g, r, lb, m, ix), y)).toArray 53)) rfl rfl rfl rfl rfl rfl rfl rfl (by kernel_rfl) (by rfl) (by rfl) (exec_append rfl rfl run9) (exec_bs53 rfl) hS9 hSl ?_ ?_
          · try simp only [Act.put, sI, sZ, sS]
            replace hHeld := hS9
            have hS8 : Below wz.heap.size wz (w9.alloc (.cells (encE ((g, r, lb, m, ix), y)).toArray 53)) := hHeld.alloc hHeld.size _
            refine turn_op (i := 8) (d := 66) (OP := Op.buildSlice 22 1 #[(0, Operand.tmp 65)]) (T := 22) (v := .slice (some ⟨w9.heap.size, 0, none⟩) 1 1) (w' := w9.alloc (.cells (encE ((g, r, lb, m, ix), y)).toArray 53)) rfl rfl rfl rfl (by kernel_rfl) (by rfl) (exec_bs53 rfl) hS8 ?_
            replace hHeld := hS8
            try simp only [Act.put, sI, sZ, sS]
            obtain ⟨v10, w10, run10, hO10, b10⟩ := hap2 (w9.alloc (.cells (encE ((g, r, lb, m, ix), y)).toArray 53)) _ w9.heap.size hHeld (hO9.alloc (.cells (encE ((g, r, lb, m, ix), y)).toArray 53)) (one_re w9 ((g, r, lb, m, ix), y))
            have hS10 := hHeld.trans b10
            refine turn_op (i := 9) (d := 67) (OP := Op.call { callee := Callee.builtin Builtin.append, args := #[Operand.tmp 61, Operand.tmp 66], argTypes := #[22, 22] }) (T := 22) (v := v10) (w' := w10) rfl rfl rfl rfl (by kernel_rfl) (by rfl) (exec_append rfl rfl run10) hS10 ?_
            replace hHeld := hS10
            try simp only [Act.put, sI, sZ, sS]
            obtain ⟨v11, w11, run11, hO11, b11⟩ := hap3 w10 _ hHeld hO10
            have hS11 := hHeld.trans b11
            refine turn_op (i := 13) (d := 71) (OP := Op.call { callee := Callee.builtin Builtin.append, args := #[Operand.tmp 67, Operand.tmp 70], argTypes := #[22, 22] }) (T := 22) (v := v11) (w' := w11) rfl rfl rfl rfl (by kernel_rfl) (by rfl) (exec_append rfl rfl run11) hS11 ?_
            replace hHeld := hS11
            try simp only [Act.put, sI, sZ, sS]
            refine take_op (i := 14) (d := 3) (OP := Op.assign (Operand.tmp 71)) (T := 22) (v := ?vsy66) rfl rfl rfl rfl (by kernel_rfl) (by kernel_rfl) (by kernel_rfl) (fun _ _ _ h => h) (by rfl) ?hsy66 hHeld ?rsy66
            case hsy66 => (intro w' hSw; (try dsimp only at hSw); go_simp <;> with_reducible rfl)
            try simp only [Act.put, sI, sZ, sS]
            refine wpAnyH_done (by kernel_rfl) ?_ _
            have H11 : Hid (Oe w11 w.heap.size v11 (insL [] (l.take (i + 1))) ∧ Below w.heap.size w w11) := hide ⟨by rw [HF.out]; exact hO11.lift (Nat.le_trans hsz HZ.out.size), (HW.out.trans (HZ.out.mono hsz)).trans (hS11.mono (Nat.le_trans hsz HZ.out.size))⟩
            clear hap1 hap2 hap3 r1 r2 f0 f1 f2 f3 f4 f5 hO9 b9 run9 hO10 run10 b10 hO11 run11 b11
            go_wp2
            go_roundw
            case rel => exact ⟨i + 1, by go_num, by omega, hide H11.out.1, hide H11.out.2⟩
            case measure => simp [intOf]; omega
          · try simp only [Act.put, sI, sZ, sS]
            clear run9 hO9 b9 hS9 v9 w9
            replace hHeld := hSl
            obtain ⟨v9, w9, run9, hO9, b9⟩ := hap1 _ hHeld
            have hS9 : Below wz.heap.size wz w9 := hHeld.trans (b9.mono hHeld.size)
            refine turn_op (i := 3) (d := 61) (OP := Op.call { callee := Callee.builtin Builtin.append, args := #[Operand.const (Value.slice none 0 0), Operand.tmp 60], argTypes := #[22, 22] }) (T := 22) (v := v9) (w' := w9) rfl rfl rfl rfl (by kernel_rfl) (by rfl) (exec_append rfl rfl run9) hS9 ?_
            replace hHeld := hS9
            try simp only [Act.put, sI, sZ, sS]
            obtain ⟨v10, w10, run10, hO10, b10⟩ := hap2 w9 _ W1.heap.size hHeld hO9 ((one_re W1 ((g, r, lb, m, ix), y)).below b9)
            have hS10 := hHeld.trans b10
            refine turn_op (i := 9) (d := 67) (OP := Op.call { callee := Callee.builtin Builtin.append, args := #[Operand.tmp 61, Operand.tmp 66], argTypes := #[22, 22] }) (T := 22) (v := v10) (w' := w10) rfl rfl rfl rfl (by kernel_rfl) (by rfl) (exec_append rfl rfl run10) hS10 ?_
            replace hHeld := hS10
            try simp only [Act.put, sI, sZ, sS]
            obtain ⟨v11, w11, run11, hO11, b11⟩ := hap3 w10 _ hHeld hO10
            have hS11 := hHeld.trans b11
            refine turn_op (i := 13) (d := 71) (OP := Op.call { callee := Callee.builtin Builtin.append, args := #[Operand.tmp 67, Operand.tmp 70], argTypes := #[22, 22] }) (T := 22) (v := v11) (w' := w11) rfl rfl rfl rfl (by kernel_rfl) (by rfl) (exec_append rfl rfl run11) hS11 ?_
            replace hHeld := hS11
            try simp only [Act.put, sI, sZ, sS]
            refine take_op (i := 14) (d := 3) (OP := Op.assign (Operand.tmp 71)) (T := 22) (v := ?vsy67) rfl rfl rfl rfl (by kernel_rfl) (by kernel_rfl) (by kernel_rfl) (fun _ _ _ h => h) (by rfl) ?hsy67 hHeld ?rsy67
            case hsy67 => (intro w' hSw; (try dsimp only at hSw); go_simp <;> with_reducible rfl)
            try simp only [Act.put, sI, sZ, sS]
            refine wpAnyH_done (by kernel_rfl) ?_ _
            have H11 : Hid (Oe w11 w.heap.size v11 (insL [] (l.take (i + 1))) ∧ Below w.heap.size w w11) := hide ⟨by rw [HF.out]; exact hO11.lift (Nat.le_trans hsz HZ.out.size), (HW.out.trans (HZ.out.mono hsz)).trans (hS11.mono (Nat.le_trans hsz HZ.out.size))⟩
            clear hap1 hap2 hap3 r1 r2 f0 f1 f2 f3 f4 f5 hO9 b9 run9 hO10 run10 b10 hO11 run11 b11
            go_wp2
            go_roundw
            case rel => exact ⟨i + 1, by go_num, by omega, hide H11.out.1, hide H11.out.2⟩
            case measure => simp [intOf]; omega
    · have z1 : ¬ (i : Int) < (N : Int) := by omega
      have hE : l.take i = l := List.take_of_length_le (by rw [← H.out.1]; omega)
      have HE := hide hE
      clear hE
      go_wp2
      go_ret
      exact ⟨_, rfl, by have h4 := HO.out; rw [HE.out] at h4; exact h4, HW.out⟩
end Go.Proofs.YtkkpdgfllnbigaaGreat
