/-
  tagset: the document's Sorted (22): by stamps, of one stamp by texts.
-/
import Derived.Test.YtkkpdgfllnbigaaGreatMg17
import Derived.Test.YtkkpdgfllnbigaaGreatSort1
namespace Go.Proofs.YtkkpdgfllnbigaaGreat.Tg
open Go.RowKit Go.Shelf Go.Sort
set_option linter.unusedSimpArgs false
set_option linter.unusedVariables false
attribute [local go_sem] Oper.semAt_some

set_option maxHeartbeats 8000000 in
set_option maxRecDepth 100000 in
theorem sorted22 {w : World} {ao : Option Addr} {c : Nat} (l : List El) (h : Re w ao l) (hl : l.length ≤ 100000) (hall : ∀ x ∈ l, okEl x = true) : Calls Tryz.prog 22 #[.slice ao l.length c] w fun e w' => ∃ v, e = .returned v ∧ Oe w' w.heap.size v (srtQ l) ∧ Below w.heap.size w w' := by
  have mixed : Tryz.prog.follows .mixedOrders = true := by kernel_rfl
  obtain ⟨N, hN⟩ : ∃ N, N = l.length := ⟨_, rfl⟩
  rw [← hN] at hl ⊢
  have H := hide (And.intro hN (And.intro h hall))
  clear hN h hall
  go_enter Tryz.func22, Tryz.ntmps22
  go_wp2
  go_loopw [3, 4] (fun v3 v4 wo => ∃ i : Nat, v4 = .int .i64 i ∧ i ≤ N ∧ Hid (Oe wo w.heap.size v3 (inlQ [] (l.take i))) ∧ Hid (Below w.heap.size w wo)) (fun _ v4 _ => N - (intOf v4).toNat)
  case atStart => exact ⟨0, rfl, by omega, hide (Oe.nil _ _), hide (Below.refl _ _)⟩
  case round =>
    obtain ⟨i, rfl, hil, HO, HW⟩ := hrel
    have hsz := HW.out.size
    by_cases hgo : i < N
    · have z1 : (i : Int) < (N : Int) := by omega
      obtain ⟨x, hx⟩ : ∃ x, l[i]? = some x := ⟨_, List.getElem?_eq_getElem (by rw [← H.out.1]; exact hgo)⟩
      obtain ⟨b, off, hao, -⟩ := H.out.2.1.cells hx
      have hnext : inlQ [] (l.take (i + 1)) = insQ x (inlQ [] (l.take i)) := by rw [List.take_add_one, hx]; exact inlQ_snoc _ _ _
      have hpm := inlQ_perm (l.take i) []
      rw [List.nil_append] at hpm
      have hmem : ∀ y ∈ inlQ [] (l.take i), okEl y = true := fun y hy => H.out.2.2 y (List.mem_of_mem_take (hpm.subset hy))
      have hlen := hpm.length_eq
      rw [List.length_take] at hlen
      have HX := hide (And.intro hx hnext)
      obtain ⟨out, hout⟩ : ∃ out, out = inlQ [] (l.take i) := ⟨_, rfl⟩
      rw [← hout] at HO HX hmem hlen
      have hlo : out.length ≤ 100000 := by omega
      have HM := hide hmem
      have HAO := hide hao
      clear hx hnext hpm hmem hlen hout
      obtain ⟨ao3, c3, hv3, hre3, hn3, hc3, hsh⟩ := HO.out.form
      subst hv3
      have HR := hide (And.intro (H.out.2.1.below HW.out) (And.intro hre3 (And.intro hn3 hc3)))
      rw [hao] at HR
      subst hao
      clear hre3 hn3 hc3 hsh
      obtain ⟨wo, hwo⟩ : ∃ wo, wr = wo := ⟨_, rfl⟩
      rw [hwo] at HO HW HR hsz ⊢
      clear hwo
      obtain ⟨⟨g, r, lb, m, ix⟩, y⟩ := x
      have hple := posQ_le ((g, r, lb, m, ix), y) out
      obtain ⟨P, hP⟩ : ∃ P, P = posQ ((g, r, lb, m, ix), y) out := ⟨_, rfl⟩
      have HP := hide hP
      rw [← hP] at hple
      clear hP
      go_wp2
      go_loopw [5] (fun v5 wr => ∃ n : Nat, v5 = .int .i64 n ∧ n ≤ P ∧ Hid (Below wo.heap.size wo wr)) (fun v5 _ => P - (intOf v5).toNat)
      case atStart => exact ⟨0, rfl, Nat.zero_le _, hide (Below.refl _ _)⟩
      case round =>
        obtain ⟨n, rfl, hn, HI⟩ := hrel
        by_cases hne : n < out.length
        · obtain ⟨q, hq⟩ : ∃ q, out[n]? = some q := ⟨_, List.getElem?_eq_getElem hne⟩
          have hqok := HM.out q (List.mem_of_getElem? hq)
          obtain ⟨gb, goff, hg, e0, e1, e2, e3, e4, e5⟩ := (HR.out.2.1.below HI.out).cells hq
          subst hg
          obtain ⟨b', off', e', f0, f1, f2, f3, f4, f5⟩ := (HR.out.1.below HI.out).cells HX.out.1
          injection e' with e'
          injection e' with e1' e2'
          subst e1' e2'
          have hcall := cmpR_any q.1 (g, r, lb, m, ix) (okEl_size hqok)
          obtain ⟨⟨g', r', lb', m', ix'⟩, y'⟩ := q
          dsimp only at e0 e1 e2 e3 e4 e5 f0 f1 f2 f3 f4 f5 hcall
          have hS : ∀ W', Below wr.heap.size wr W' → W'.cell? ⟨gb, goff + n * 6, none⟩ = some (.int .i64 g') ∧ W'.cell? ⟨gb, goff + n * 6 + 1, none⟩ = some (.int .i64 r') ∧ W'.cell? ⟨gb, goff + n * 6 + 2, none⟩ = some (.string lb') ∧ W'.cell? ⟨gb, goff + n * 6 + 3, none⟩ = some (.int .i64 m') ∧ W'.cell? ⟨gb, goff + n * 6 + 4, none⟩ = some (.int .i64 ix') ∧ W'.cell? ⟨gb, goff + n * 6 + 5, none⟩ = some (.string y') ∧ W'.cell? ⟨b, off + i * 6, none⟩ = some (.int .i64 g) ∧ W'.cell? ⟨b, off + i * 6 + 1, none⟩ = some (.int .i64 r) ∧ W'.cell? ⟨b, off + i * 6 + 2, none⟩ = some (.string lb) ∧ W'.cell? ⟨b, off + i * 6 + 3, none⟩ = some (.int .i64 m) ∧ W'.cell? ⟨b, off + i * 6 + 4, none⟩ = some (.int .i64 ix) ∧ W'.cell? ⟨b, off + i * 6 + 5, none⟩ = some (.string y) := fun W' hW => ⟨cell_stays e0 hW, cell_stays e1 hW, cell_stays e2 hW, cell_stays e3 hW, cell_stays e4 hW, cell_stays e5 hW, cell_stays f0 hW, cell_stays f1 hW, cell_stays f2 hW, cell_stays f3 hW, cell_stays f4 hW, cell_stays f5 hW⟩
          have HS := hide hS
          have z2 : (n : Int) < (out.length : Int) := by omega
          have z3 : ¬ (n : Int) < 0 := by omega
          have hs1 := HI.out.size
          have z4 : decide (n < out.length) = true := by simpa using hne
          have z5 : decide (i < N) = true := by simpa using hgo
          clear e0 e1 e2 e3 e4 e5 f0 f1 f2 f3 f4 f5 hS
          by_cases hnp : n < P
          · have hlt := posQ_lt _ out n _ hq (by rw [← HP.out]; exact hnp)
            have heq := fun W => run_eq52' (g', r', lb', m', ix') (g, r, lb, m, ix) W
            dsimp only [cmpQ] at hlt
            by_cases hc0 : cmpT (g', r', lb', m', ix') (g, r, lb, m, ix) = 0
            · rw [if_pos hc0] at hlt
              have hb : Op.bytesLess y'.toList y.toList = true := by rw [Pm.less_B, hlt]; rfl
              rw [decide_eq_true (ord_T.eq _ _ hc0)] at heq
              rw [hc0] at hcall
              clear hlt hq hqok hc0
              dsimp only [svT, sv] at heq hcall
              go_upto_region 6 with fail
              refine wp_region_held_drew (S := (fun w' => w'.cell? ⟨gb, goff + n * 6, none⟩ = some (.int .i64 g') ∧ w'.cell? ⟨gb, goff + n * 6 + 1, none⟩ = some (.int .i64 r') ∧ w'.cell? ⟨gb, goff + n * 6 + 2, none⟩ = some (.string lb') ∧ w'.cell? ⟨gb, goff + n * 6 + 3, none⟩ = some (.int .i64 m') ∧ w'.cell? ⟨gb, goff + n * 6 + 4, none⟩ = some (.int .i64 ix') ∧ w'.cell? ⟨gb, goff + n * 6 + 5, none⟩ = some (.string y') ∧ w'.cell? ⟨b, off + i * 6, none⟩ = some (.int .i64 g) ∧ w'.cell? ⟨b, off + i * 6 + 1, none⟩ = some (.int .i64 r) ∧ w'.cell? ⟨b, off + i * 6 + 2, none⟩ = some (.string lb) ∧ w'.cell? ⟨b, off + i * 6 + 3, none⟩ = some (.int .i64 m) ∧ w'.cell? ⟨b, off + i * 6 + 4, none⟩ = some (.int .i64 ix) ∧ w'.cell? ⟨b, off + i * 6 + 5, none⟩ = some (.string y))) (by kernel_rfl) (by exact HS.out _ (drew_below wr)) (fun hHeld => ?_)
              try dsimp only at hHeld
              refine take_op (i := 0) (d := 12) (OP := Op.move (Operand.tmp 5)) (T := 3) (v := ?v52) rfl rfl rfl rfl (by kernel_rfl) (by kernel_rfl) (by kernel_rfl) (fun _ _ _ h => h) (by rfl) ?h52 hHeld ?r52
              case h52 => (intro w' hSw; (try dsimp only at hSw); go_simp <;> with_reducible rfl)
              try simp only [Act.put, sI, sZ, sS]
              refine take_op (i := 1) (d := 13) (OP := Op.move (Operand.tmp 3)) (T := 22) (v := ?v53) rfl rfl rfl rfl (by kernel_rfl) (by kernel_rfl) (by kernel_rfl) (fun _ _ _ h => h) (by rfl) ?h53 hHeld ?r53
              case h53 => (intro w' hSw; (try dsimp only at hSw); go_simp <;> with_reducible rfl)
              try simp only [Act.put, sI, sZ, sS]
              refine take_op (i := 2) (d := 14) (OP := Op.call { callee := Callee.builtin Builtin.len, args := #[Operand.tmp 13], argTypes := #[22] }) (T := 3) (v := ?v54) rfl rfl rfl rfl (by kernel_rfl) (by kernel_rfl) (by kernel_rfl) (fun _ _ _ h => h) (by rfl) ?h54 hHeld ?r54
              case h54 => (intro w' hSw; (try dsimp only at hSw); go_simp <;> with_reducible rfl)
              try simp only [Act.put, sI, sZ, sS]
              refine take_op (i := 3) (d := 15) (OP := Op.binOp BinOp.lss 3 (Operand.tmp 12) (Operand.tmp 14) 3) (T := 4) (v := ?v55) rfl rfl rfl rfl (by kernel_rfl) (by kernel_rfl) (by kernel_rfl) (fun _ _ _ h => h) (by rfl) ?h55 hHeld ?r55
              case h55 => (intro w' hSw; (try dsimp only at hSw); go_simp <;> with_reducible rfl)
              try simp only [Act.put, sI, sZ, sS]
              refine take_op (i := 4) (d := 16) (OP := Op.move (Operand.tmp 15)) (T := 4) (v := ?v56) rfl rfl rfl rfl (by kernel_rfl) (by kernel_rfl) (by kernel_rfl) (fun _ _ _ h => h) (by rfl) ?h56 hHeld ?r56
              case h56 => (intro w' hSw; (try dsimp only at hSw); go_simp <;> with_reducible rfl)
              try simp only [Act.put, sI, sZ, sS]
              refine take_op (i := 5) (d := 17) (OP := Op.move (Operand.tmp 3)) (T := 22) (v := ?v57) rfl rfl rfl rfl (by kernel_rfl) (by kernel_rfl) (by kernel_rfl) (fun _ _ _ h => h) (by rfl) ?h57 hHeld ?r57
              case h57 => (intro w' hSw; (try dsimp only at hSw); go_simp <;> with_reducible rfl)
              try simp only [Act.put, sI, sZ, sS]
              refine take_op (i := 6) (d := 18) (OP := Op.move (Operand.tmp 5)) (T := 3) (v := ?v58) rfl rfl rfl rfl (by kernel_rfl) (by kernel_rfl) (by kernel_rfl) (fun _ _ _ h => h) (by rfl) ?h58 hHeld ?r58
              case h58 => (intro w' hSw; (try dsimp only at hSw); go_simp <;> with_reducible rfl)
              try simp only [Act.put, sI, sZ, sS]
              refine take_op (i := 7) (d := 19) (OP := Op.indexAddr 22 (Operand.tmp 17) (Operand.tmp 18)) (T := 0) (v := ?v59) rfl rfl rfl rfl (by kernel_rfl) (by kernel_rfl) (by kernel_rfl) (fun _ _ _ h => h) (by rfl) ?h59 hHeld ?r59
              case h59 => (intro w' hSw; (try dsimp only at hSw); go_simp <;> with_reducible rfl)
              try simp only [Act.put, sI, sZ, sS]
              refine take_op (i := 8) (d := 20) (OP := Op.fieldAddr 53 (Operand.tmp 19) 0) (T := 0) (v := ?v60) rfl rfl rfl rfl (by kernel_rfl) (by kernel_rfl) (by kernel_rfl) (fun _ _ _ h => h) (by rfl) ?h60 hHeld ?r60
              case h60 => (intro w' hSw; (try dsimp only at hSw); go_simp <;> with_reducible rfl)
              try simp only [Act.put, sI, sZ, sS]
              refine take_op (i := 9) (d := 21) (OP := Op.load 43 (Operand.tmp 20)) (T := 43) (v := ?v61) rfl rfl rfl rfl (by kernel_rfl) (by kernel_rfl) (by kernel_rfl) (fun _ _ _ h => h) (by rfl) ?h61 hHeld ?r61
              case h61 => (intro w' hSw; (try dsimp only at hSw); go_simp <;> with_reducible rfl)
              try simp only [Act.put, sI, sZ, sS]
              refine take_op (i := 10) (d := 22) (OP := Op.move (Operand.tmp 0)) (T := 22) (v := ?v62) rfl rfl rfl rfl (by kernel_rfl) (by kernel_rfl) (by kernel_rfl) (fun _ _ _ h => h) (by rfl) ?h62 hHeld ?r62
              case h62 => (intro w' hSw; (try dsimp only at hSw); go_simp <;> with_reducible rfl)
              try simp only [Act.put, sI, sZ, sS]
              refine take_op (i := 11) (d := 23) (OP := Op.move (Operand.tmp 4)) (T := 3) (v := ?v63) rfl rfl rfl rfl (by kernel_rfl) (by kernel_rfl) (by kernel_rfl) (fun _ _ _ h => h) (by rfl) ?h63 hHeld ?r63
              case h63 => (intro w' hSw; (try dsimp only at hSw); go_simp <;> with_reducible rfl)
              try simp only [Act.put, sI, sZ, sS]
              refine take_op (i := 12) (d := 24) (OP := Op.indexAddr 22 (Operand.tmp 22) (Operand.tmp 23)) (T := 0) (v := ?v64) rfl rfl rfl rfl (by kernel_rfl) (by kernel_rfl) (by kernel_rfl) (fun _ _ _ h => h) (by rfl) ?h64 hHeld ?r64
              case h64 => (intro w' hSw; (try dsimp only at hSw); go_simp <;> with_reducible rfl)
              try simp only [Act.put, sI, sZ, sS]
              refine take_op (i := 13) (d := 25) (OP := Op.fieldAddr 53 (Operand.tmp 24) 0) (T := 0) (v := ?v65) rfl rfl rfl rfl (by kernel_rfl) (by kernel_rfl) (by kernel_rfl) (fun _ _ _ h => h) (by rfl) ?h65 hHeld ?r65
              case h65 => (intro w' hSw; (try dsimp only at hSw); go_simp <;> with_reducible rfl)
              try simp only [Act.put, sI, sZ, sS]
              refine take_op (i := 14) (d := 26) (OP := Op.load 43 (Operand.tmp 25)) (T := 43) (v := ?v66) rfl rfl rfl rfl (by kernel_rfl) (by kernel_rfl) (by kernel_rfl) (fun _ _ _ h => h) (by rfl) ?h66 hHeld ?r66
              case h66 => (intro w' hSw; (try dsimp only at hSw); go_simp <;> with_reducible rfl)
              try simp only [Act.put, sI, sZ, sS]
              refine call_op (i := 15) (d := 27) (OP := Op.call { callee := Callee.value (Operand.func 114), args := #[Operand.tmp 21, Operand.tmp 26], argTypes := #[43, 43] }) (T := 3) (f := 114) (args := #[.agg #[.int .i64 g', .int .i64 r', .string lb', .int .i64 m', .int .i64 ix'], .agg #[.int .i64 g, .int .i64 r, .string lb, .int .i64 m, .int .i64 ix]]) rfl rfl rfl rfl (by kernel_rfl) (by rfl) (by go_simp) ?_
              refine (hcall _).mono ?_
              rintro e w5 ⟨rfl, b5⟩
              have bb5 := (drew_below wr).trans (b5.mono (drew_below wr).size)
              have q5 := HS.out w5 bb5
              have HW5 := hide (HI.out.trans (bb5.mono hs1))
              clear b5 bb5
              refine ⟨_, rfl, q5, ?_⟩
              replace hHeld := q5
              try simp only [Act.put, sI, sZ, sS]
              refine take_op (i := 16) (d := 28) (OP := Op.binOp BinOp.lss 3 (Operand.tmp 27) (Operand.const (Value.int IntKind.i64 0)) 3) (T := 4) (v := ?v67) rfl rfl rfl rfl (by kernel_rfl) (by kernel_rfl) (by kernel_rfl) (fun _ _ _ h => h) (by rfl) ?h67 hHeld ?r67
              case h67 => (intro w' hSw; (try dsimp only at hSw); go_simp <;> with_reducible rfl)
              try simp only [Act.put, sI, sZ, sS]
              refine take_op (i := 17) (d := 29) (OP := Op.move (Operand.tmp 28)) (T := 4) (v := ?v68) rfl rfl rfl rfl (by kernel_rfl) (by kernel_rfl) (by kernel_rfl) (fun _ _ _ h => h) (by rfl) ?h68 hHeld ?r68
              case h68 => (intro w' hSw; (try dsimp only at hSw); go_simp <;> with_reducible rfl)
              try simp only [Act.put, sI, sZ, sS]
              refine take_op (i := 18) (d := 30) (OP := Op.move (Operand.tmp 3)) (T := 22) (v := ?v69) rfl rfl rfl rfl (by kernel_rfl) (by kernel_rfl) (by kernel_rfl) (fun _ _ _ h => h) (by rfl) ?h69 hHeld ?r69
              case h69 => (intro w' hSw; (try dsimp only at hSw); go_simp <;> with_reducible rfl)
              try simp only [Act.put, sI, sZ, sS]
              refine take_op (i := 19) (d := 31) (OP := Op.move (Operand.tmp 5)) (T := 3) (v := ?v70) rfl rfl rfl rfl (by kernel_rfl) (by kernel_rfl) (by kernel_rfl) (fun _ _ _ h => h) (by rfl) ?h70 hHeld ?r70
              case h70 => (intro w' hSw; (try dsimp only at hSw); go_simp <;> with_reducible rfl)
              try simp only [Act.put, sI, sZ, sS]
              refine take_op (i := 20) (d := 32) (OP := Op.indexAddr 22 (Operand.tmp 30) (Operand.tmp 31)) (T := 0) (v := ?v71) rfl rfl rfl rfl (by kernel_rfl) (by kernel_rfl) (by kernel_rfl) (fun _ _ _ h => h) (by rfl) ?h71 hHeld ?r71
              case h71 => (intro w' hSw; (try dsimp only at hSw); go_simp <;> with_reducible rfl)
              try simp only [Act.put, sI, sZ, sS]
              refine take_op (i := 21) (d := 33) (OP := Op.fieldAddr 53 (Operand.tmp 32) 0) (T := 0) (v := ?v72) rfl rfl rfl rfl (by kernel_rfl) (by kernel_rfl) (by kernel_rfl) (fun _ _ _ h => h) (by rfl) ?h72 hHeld ?r72
              case h72 => (intro w' hSw; (try dsimp only at hSw); go_simp <;> with_reducible rfl)
              try simp only [Act.put, sI, sZ, sS]
              refine take_op (i := 22) (d := 34) (OP := Op.load 43 (Operand.tmp 33)) (T := 43) (v := ?v73) rfl rfl rfl rfl (by kernel_rfl) (by kernel_rfl) (by kernel_rfl) (fun _ _ _ h => h) (by rfl) ?h73 hHeld ?r73
              case h73 => (intro w' hSw; (try dsimp only at hSw); go_simp <;> with_reducible rfl)
              try simp only [Act.put, sI, sZ, sS]
              refine take_op (i := 23) (d := 35) (OP := Op.move (Operand.tmp 0)) (T := 22) (v := ?v74) rfl rfl rfl rfl (by kernel_rfl) (by kernel_rfl) (by kernel_rfl) (fun _ _ _ h => h) (by rfl) ?h74 hHeld ?r74
              case h74 => (intro w' hSw; (try dsimp only at hSw); go_simp <;> with_reducible rfl)
              try simp only [Act.put, sI, sZ, sS]
              refine take_op (i := 24) (d := 36) (OP := Op.move (Operand.tmp 4)) (T := 3) (v := ?v75) rfl rfl rfl rfl (by kernel_rfl) (by kernel_rfl) (by kernel_rfl) (fun _ _ _ h => h) (by rfl) ?h75 hHeld ?r75
              case h75 => (intro w' hSw; (try dsimp only at hSw); go_simp <;> with_reducible rfl)
              try simp only [Act.put, sI, sZ, sS]
              refine take_op (i := 25) (d := 37) (OP := Op.indexAddr 22 (Operand.tmp 35) (Operand.tmp 36)) (T := 0) (v := ?v76) rfl rfl rfl rfl (by kernel_rfl) (by kernel_rfl) (by kernel_rfl) (fun _ _ _ h => h) (by rfl) ?h76 hHeld ?r76
              case h76 => (intro w' hSw; (try dsimp only at hSw); go_simp <;> with_reducible rfl)
              try simp only [Act.put, sI, sZ, sS]
              refine take_op (i := 26) (d := 38) (OP := Op.fieldAddr 53 (Operand.tmp 37) 0) (T := 0) (v := ?v77) rfl rfl rfl rfl (by kernel_rfl) (by kernel_rfl) (by kernel_rfl) (fun _ _ _ h => h) (by rfl) ?h77 hHeld ?r77
              case h77 => (intro w' hSw; (try dsimp only at hSw); go_simp <;> with_reducible rfl)
              try simp only [Act.put, sI, sZ, sS]
              refine take_op (i := 27) (d := 39) (OP := Op.load 43 (Operand.tmp 38)) (T := 43) (v := ?v78) rfl rfl rfl rfl (by kernel_rfl) (by kernel_rfl) (by kernel_rfl) (fun _ _ _ h => h) (by rfl) ?h78 hHeld ?r78
              case h78 => (intro w' hSw; (try dsimp only at hSw); go_simp <;> with_reducible rfl)
              try simp only [Act.put, sI, sZ, sS]
              refine take_op (i := 28) (d := 40) (OP := Op.binOp BinOp.eql 43 (Operand.tmp 34) (Operand.tmp 39) 43) (T := 4) (v := ?v79) rfl rfl rfl rfl (by kernel_rfl) (by kernel_rfl) (by kernel_rfl) (fun _ _ _ h => h) (by rfl) ?h79 hHeld ?r79
              case h79 => (intro w' hSw; (try dsimp only at hSw); go_simp <;> with_reducible rfl)
              try simp only [Act.put, sI, sZ, sS]
              refine take_op (i := 29) (d := 41) (OP := Op.move (Operand.tmp 40)) (T := 4) (v := ?v80) rfl rfl rfl rfl (by kernel_rfl) (by kernel_rfl) (by kernel_rfl) (fun _ _ _ h => h) (by rfl) ?h80 hHeld ?r80
              case h80 => (intro w' hSw; (try dsimp only at hSw); go_simp <;> with_reducible rfl)
              try simp only [Act.put, sI, sZ, sS]
              refine take_op (i := 30) (d := 42) (OP := Op.move (Operand.tmp 3)) (T := 22) (v := ?v81) rfl rfl rfl rfl (by kernel_rfl) (by kernel_rfl) (by kernel_rfl) (fun _ _ _ h => h) (by rfl) ?h81 hHeld ?r81
              case h81 => (intro w' hSw; (try dsimp only at hSw); go_simp <;> with_reducible rfl)
              try simp only [Act.put, sI, sZ, sS]
              refine take_op (i := 31) (d := 43) (OP := Op.move (Operand.tmp 5)) (T := 3) (v := ?v82) rfl rfl rfl rfl (by kernel_rfl) (by kernel_rfl) (by kernel_rfl) (fun _ _ _ h => h) (by rfl) ?h82 hHeld ?r82
              case h82 => (intro w' hSw; (try dsimp only at hSw); go_simp <;> with_reducible rfl)
              try simp only [Act.put, sI, sZ, sS]
              refine take_op (i := 32) (d := 44) (OP := Op.indexAddr 22 (Operand.tmp 42) (Operand.tmp 43)) (T := 0) (v := ?v83) rfl rfl rfl rfl (by kernel_rfl) (by kernel_rfl) (by kernel_rfl) (fun _ _ _ h => h) (by rfl) ?h83 hHeld ?r83
              case h83 => (intro w' hSw; (try dsimp only at hSw); go_simp <;> with_reducible rfl)
              try simp only [Act.put, sI, sZ, sS]
              refine take_op (i := 33) (d := 45) (OP := Op.fieldAddr 53 (Operand.tmp 44) 1) (T := 0) (v := ?v84) rfl rfl rfl rfl (by kernel_rfl) (by kernel_rfl) (by kernel_rfl) (fun _ _ _ h => h) (by rfl) ?h84 hHeld ?r84
              case h84 => (intro w' hSw; (try dsimp only at hSw); go_simp <;> with_reducible rfl)
              try simp only [Act.put, sI, sZ, sS]
              refine take_op (i := 34) (d := 46) (OP := Op.load 9 (Operand.tmp 45)) (T := 9) (v := ?v85) rfl rfl rfl rfl (by kernel_rfl) (by kernel_rfl) (by kernel_rfl) (fun _ _ _ h => h) (by rfl) ?h85 hHeld ?r85
              case h85 => (intro w' hSw; (try dsimp only at hSw); go_simp <;> with_reducible rfl)
              try simp only [Act.put, sI, sZ, sS]
              refine take_op (i := 35) (d := 47) (OP := Op.move (Operand.tmp 0)) (T := 22) (v := ?v86) rfl rfl rfl rfl (by kernel_rfl) (by kernel_rfl) (by kernel_rfl) (fun _ _ _ h => h) (by rfl) ?h86 hHeld ?r86
              case h86 => (intro w' hSw; (try dsimp only at hSw); go_simp <;> with_reducible rfl)
              try simp only [Act.put, sI, sZ, sS]
              refine take_op (i := 36) (d := 48) (OP := Op.move (Operand.tmp 4)) (T := 3) (v := ?v87) rfl rfl rfl rfl (by kernel_rfl) (by kernel_rfl) (by kernel_rfl) (fun _ _ _ h => h) (by rfl) ?h87 hHeld ?r87
              case h87 => (intro w' hSw; (try dsimp only at hSw); go_simp <;> with_reducible rfl)
              try simp only [Act.put, sI, sZ, sS]
              refine take_op (i := 37) (d := 49) (OP := Op.indexAddr 22 (Operand.tmp 47) (Operand.tmp 48)) (T := 0) (v := ?v88) rfl rfl rfl rfl (by kernel_rfl) (by kernel_rfl) (by kernel_rfl) (fun _ _ _ h => h) (by rfl) ?h88 hHeld ?r88
              case h88 => (intro w' hSw; (try dsimp only at hSw); go_simp <;> with_reducible rfl)
              try simp only [Act.put, sI, sZ, sS]
              refine take_op (i := 38) (d := 50) (OP := Op.fieldAddr 53 (Operand.tmp 49) 1) (T := 0) (v := ?v89) rfl rfl rfl rfl (by kernel_rfl) (by kernel_rfl) (by kernel_rfl) (fun _ _ _ h => h) (by rfl) ?h89 hHeld ?r89
              case h89 => (intro w' hSw; (try dsimp only at hSw); go_simp <;> with_reducible rfl)
              try simp only [Act.put, sI, sZ, sS]
              refine take_op (i := 39) (d := 51) (OP := Op.load 9 (Operand.tmp 50)) (T := 9) (v := ?v90) rfl rfl rfl rfl (by kernel_rfl) (by kernel_rfl) (by kernel_rfl) (fun _ _ _ h => h) (by rfl) ?h90 hHeld ?r90
              case h90 => (intro w' hSw; (try dsimp only at hSw); go_simp <;> with_reducible rfl)
              try simp only [Act.put, sI, sZ, sS]
              refine take_op (i := 40) (d := 52) (OP := Op.binOp BinOp.lss 9 (Operand.tmp 46) (Operand.tmp 51) 9) (T := 4) (v := ?v91) rfl rfl rfl rfl (by kernel_rfl) (by kernel_rfl) (by kernel_rfl) (fun _ _ _ h => h) (by rfl) ?h91 hHeld ?r91
              case h91 => (intro w' hSw; (try dsimp only at hSw); go_simp <;> with_reducible rfl)
              try simp only [Act.put, sI, sZ, sS]
              refine take_op (i := 41) (d := 53) (OP := Op.pick (Operand.tmp 41) (Operand.tmp 52) (Operand.const (Value.bool false))) (T := 4) (v := ?v92) rfl rfl rfl rfl (by kernel_rfl) (by kernel_rfl) (by kernel_rfl) (fun _ _ _ h => h) (by rfl) ?h92 hHeld ?r92
              case h92 => (intro w' hSw; (try dsimp only at hSw); go_simp <;> with_reducible rfl)
              try simp only [Act.put, sI, sZ, sS]
              refine take_op (i := 42) (d := 54) (OP := Op.pick (Operand.tmp 29) (Operand.const (Value.bool true)) (Operand.tmp 53)) (T := 4) (v := ?v93) rfl rfl rfl rfl (by kernel_rfl) (by kernel_rfl) (by kernel_rfl) (fun _ _ _ h => h) (by rfl) ?h93 hHeld ?r93
              case h93 => (intro w' hSw; (try dsimp only at hSw); go_simp <;> with_reducible rfl)
              try simp only [Act.put, sI, sZ, sS]
              refine take_op (i := 43) (d := 55) (OP := Op.pick (Operand.tmp 16) (Operand.tmp 54) (Operand.const (Value.bool false))) (T := 4) (v := ?v94) rfl rfl rfl rfl (by kernel_rfl) (by kernel_rfl) (by kernel_rfl) (fun _ _ _ h => h) (by rfl) ?h94 hHeld ?r94
              case h94 => (intro w' hSw; (try dsimp only at hSw); go_simp <;> with_reducible rfl)
              try simp only [Act.put, sI, sZ, sS]
              refine wpAnyH_done (by kernel_rfl) ?_ _
              have H9 := hide HW5.out
              clear HS hcall HW5 heq hb
              go_wp2
              go_roundw
              case rel => exact ⟨n + 1, by go_num, by omega, hide H9.out⟩
              case measure => simp [intOf]; omega
            · rw [if_neg hc0] at hlt
              rw [hlt] at hcall
              clear hlt hq hqok hc0 heq
              dsimp only [svT, sv] at hcall
              go_upto_region 6 with fail
              refine wp_region_held_drew (S := (fun w' => w'.cell? ⟨gb, goff + n * 6, none⟩ = some (.int .i64 g') ∧ w'.cell? ⟨gb, goff + n * 6 + 1, none⟩ = some (.int .i64 r') ∧ w'.cell? ⟨gb, goff + n * 6 + 2, none⟩ = some (.string lb') ∧ w'.cell? ⟨gb, goff + n * 6 + 3, none⟩ = some (.int .i64 m') ∧ w'.cell? ⟨gb, goff + n * 6 + 4, none⟩ = some (.int .i64 ix') ∧ w'.cell? ⟨gb, goff + n * 6 + 5, none⟩ = some (.string y') ∧ w'.cell? ⟨b, off + i * 6, none⟩ = some (.int .i64 g) ∧ w'.cell? ⟨b, off + i * 6 + 1, none⟩ = some (.int .i64 r) ∧ w'.cell? ⟨b, off + i * 6 + 2, none⟩ = some (.string lb) ∧ w'.cell? ⟨b, off + i * 6 + 3, none⟩ = some (.int .i64 m) ∧ w'.cell? ⟨b, off + i * 6 + 4, none⟩ = some (.int .i64 ix) ∧ w'.cell? ⟨b, off + i * 6 + 5, none⟩ = some (.string y))) (by kernel_rfl) (by exact HS.out _ (drew_below wr)) (fun hHeld => ?_)
              try dsimp only at hHeld
              refine take_op (i := 0) (d := 12) (OP := Op.move (Operand.tmp 5)) (T := 3) (v := ?v1) rfl rfl rfl rfl (by kernel_rfl) (by kernel_rfl) (by kernel_rfl) (fun _ _ _ h => h) (by rfl) ?h1 hHeld ?r1
              case h1 => (intro w' hSw; (try dsimp only at hSw); go_simp <;> with_reducible rfl)
              try simp only [Act.put, sI, sZ, sS]
              refine take_op (i := 1) (d := 13) (OP := Op.move (Operand.tmp 3)) (T := 22) (v := ?v2) rfl rfl rfl rfl (by kernel_rfl) (by kernel_rfl) (by kernel_rfl) (fun _ _ _ h => h) (by rfl) ?h2 hHeld ?r2
              case h2 => (intro w' hSw; (try dsimp only at hSw); go_simp <;> with_reducible rfl)
              try simp only [Act.put, sI, sZ, sS]
              refine take_op (i := 2) (d := 14) (OP := Op.call { callee := Callee.builtin Builtin.len, args := #[Operand.tmp 13], argTypes := #[22] }) (T := 3) (v := ?v3) rfl rfl rfl rfl (by kernel_rfl) (by kernel_rfl) (by kernel_rfl) (fun _ _ _ h => h) (by rfl) ?h3 hHeld ?r3
              case h3 => (intro w' hSw; (try dsimp only at hSw); go_simp <;> with_reducible rfl)
              try simp only [Act.put, sI, sZ, sS]
              refine take_op (i := 3) (d := 15) (OP := Op.binOp BinOp.lss 3 (Operand.tmp 12) (Operand.tmp 14) 3) (T := 4) (v := ?v4) rfl rfl rfl rfl (by kernel_rfl) (by kernel_rfl) (by kernel_rfl) (fun _ _ _ h => h) (by rfl) ?h4 hHeld ?r4
              case h4 => (intro w' hSw; (try dsimp only at hSw); go_simp <;> with_reducible rfl)
              try simp only [Act.put, sI, sZ, sS]
              refine take_op (i := 4) (d := 16) (OP := Op.move (Operand.tmp 15)) (T := 4) (v := ?v5) rfl rfl rfl rfl (by kernel_rfl) (by kernel_rfl) (by kernel_rfl) (fun _ _ _ h => h) (by rfl) ?h5 hHeld ?r5
              case h5 => (intro w' hSw; (try dsimp only at hSw); go_simp <;> with_reducible rfl)
              try simp only [Act.put, sI, sZ, sS]
              refine take_op (i := 5) (d := 17) (OP := Op.move (Operand.tmp 3)) (T := 22) (v := ?v6) rfl rfl rfl rfl (by kernel_rfl) (by kernel_rfl) (by kernel_rfl) (fun _ _ _ h => h) (by rfl) ?h6 hHeld ?r6
              case h6 => (intro w' hSw; (try dsimp only at hSw); go_simp <;> with_reducible rfl)
              try simp only [Act.put, sI, sZ, sS]
              refine take_op (i := 6) (d := 18) (OP := Op.move (Operand.tmp 5)) (T := 3) (v := ?v7) rfl rfl rfl rfl (by kernel_rfl) (by kernel_rfl) (by kernel_rfl) (fun _ _ _ h => h) (by rfl) ?h7 hHeld ?r7
              case h7 => (intro w' hSw; (try dsimp only at hSw); go_simp <;> with_reducible rfl)
              try simp only [Act.put, sI, sZ, sS]
              refine take_op (i := 7) (d := 19) (OP := Op.indexAddr 22 (Operand.tmp 17) (Operand.tmp 18)) (T := 0) (v := ?v8) rfl rfl rfl rfl (by kernel_rfl) (by kernel_rfl) (by kernel_rfl) (fun _ _ _ h => h) (by rfl) ?h8 hHeld ?r8
              case h8 => (intro w' hSw; (try dsimp only at hSw); go_simp <;> with_reducible rfl)
              try simp only [Act.put, sI, sZ, sS]
              refine take_op (i := 8) (d := 20) (OP := Op.fieldAddr 53 (Operand.tmp 19) 0) (T := 0) (v := ?v9) rfl rfl rfl rfl (by kernel_rfl) (by kernel_rfl) (by kernel_rfl) (fun _ _ _ h => h) (by rfl) ?h9 hHeld ?r9
              case h9 => (intro w' hSw; (try dsimp only at hSw); go_simp <;> with_reducible rfl)
              try simp only [Act.put, sI, sZ, sS]
              refine take_op (i := 9) (d := 21) (OP := Op.load 43 (Operand.tmp 20)) (T := 43) (v := ?v10) rfl rfl rfl rfl (by kernel_rfl) (by kernel_rfl) (by kernel_rfl) (fun _ _ _ h => h) (by rfl) ?h10 hHeld ?r10
              case h10 => (intro w' hSw; (try dsimp only at hSw); go_simp <;> with_reducible rfl)
              try simp only [Act.put, sI, sZ, sS]
              refine take_op (i := 10) (d := 22) (OP := Op.move (Operand.tmp 0)) (T := 22) (v := ?v11) rfl rfl rfl rfl (by kernel_rfl) (by kernel_rfl) (by kernel_rfl) (fun _ _ _ h => h) (by rfl) ?h11 hHeld ?r11
              case h11 => (intro w' hSw; (try dsimp only at hSw); go_simp <;> with_reducible rfl)
              try simp only [Act.put, sI, sZ, sS]
              refine take_op (i := 11) (d := 23) (OP := Op.move (Operand.tmp 4)) (T := 3) (v := ?v12) rfl rfl rfl rfl (by kernel_rfl) (by kernel_rfl) (by kernel_rfl) (fun _ _ _ h => h) (by rfl) ?h12 hHeld ?r12
              case h12 => (intro w' hSw; (try dsimp only at hSw); go_simp <;> with_reducible rfl)
              try simp only [Act.put, sI, sZ, sS]
              refine take_op (i := 12) (d := 24) (OP := Op.indexAddr 22 (Operand.tmp 22) (Operand.tmp 23)) (T := 0) (v := ?v13) rfl rfl rfl rfl (by kernel_rfl) (by kernel_rfl) (by kernel_rfl) (fun _ _ _ h => h) (by rfl) ?h13 hHeld ?r13
              case h13 => (intro w' hSw; (try dsimp only at hSw); go_simp <;> with_reducible rfl)
              try simp only [Act.put, sI, sZ, sS]
              refine take_op (i := 13) (d := 25) (OP := Op.fieldAddr 53 (Operand.tmp 24) 0) (T := 0) (v := ?v14) rfl rfl rfl rfl (by kernel_rfl) (by kernel_rfl) (by kernel_rfl) (fun _ _ _ h => h) (by rfl) ?h14 hHeld ?r14
              case h14 => (intro w' hSw; (try dsimp only at hSw); go_simp <;> with_reducible rfl)
              try simp only [Act.put, sI, sZ, sS]
              refine take_op (i := 14) (d := 26) (OP := Op.load 43 (Operand.tmp 25)) (T := 43) (v := ?v15) rfl rfl rfl rfl (by kernel_rfl) (by kernel_rfl) (by kernel_rfl) (fun _ _ _ h => h) (by rfl) ?h15 hHeld ?r15
              case h15 => (intro w' hSw; (try dsimp only at hSw); go_simp <;> with_reducible rfl)
              try simp only [Act.put, sI, sZ, sS]
              refine call_op (i := 15) (d := 27) (OP := Op.call { callee := Callee.value (Operand.func 114), args := #[Operand.tmp 21, Operand.tmp 26], argTypes := #[43, 43] }) (T := 3) (f := 114) (args := #[.agg #[.int .i64 g', .int .i64 r', .string lb', .int .i64 m', .int .i64 ix'], .agg #[.int .i64 g, .int .i64 r, .string lb, .int .i64 m, .int .i64 ix]]) rfl rfl rfl rfl (by kernel_rfl) (by rfl) (by go_simp) ?_
              refine (hcall _).mono ?_
              rintro e w5 ⟨rfl, b5⟩
              have bb5 := (drew_below wr).trans (b5.mono (drew_below wr).size)
              have q5 := HS.out w5 bb5
              have HW5 := hide (HI.out.trans (bb5.mono hs1))
              clear b5 bb5
              refine ⟨_, rfl, q5, ?_⟩
              replace hHeld := q5
              try simp only [Act.put, sI, sZ, sS]
              refine take_op (i := 16) (d := 28) (OP := Op.binOp BinOp.lss 3 (Operand.tmp 27) (Operand.const (Value.int IntKind.i64 0)) 3) (T := 4) (v := ?v16) rfl rfl rfl rfl (by kernel_rfl) (by kernel_rfl) (by kernel_rfl) (fun _ _ _ h => h) (by rfl) ?h16 hHeld ?r16
              case h16 => (intro w' hSw; (try dsimp only at hSw); go_simp <;> with_reducible rfl)
              try simp only [Act.put, sI, sZ, sS]
              refine take_op (i := 17) (d := 29) (OP := Op.move (Operand.tmp 28)) (T := 4) (v := ?v17) rfl rfl rfl rfl (by kernel_rfl) (by kernel_rfl) (by kernel_rfl) (fun _ _ _ h => h) (by rfl) ?h17 hHeld ?r17
              case h17 => (intro w' hSw; (try dsimp only at hSw); go_simp <;> with_reducible rfl)
              try simp only [Act.put, sI, sZ, sS]
              refine pass_op (i := 18) (d := 30) rfl rfl (by kernel_rfl) (by kernel_rfl) (by kernel_rfl) (fun _ _ _ h => h) (by rfl) hHeld ?_
              try simp only [Act.put, sI, sZ, sS]
              refine pass_op (i := 19) (d := 31) rfl rfl (by kernel_rfl) (by kernel_rfl) (by kernel_rfl) (fun _ _ _ h => h) (by rfl) hHeld ?_
              try simp only [Act.put, sI, sZ, sS]
              refine pass_op (i := 20) (d := 32) rfl rfl (by kernel_rfl) (by kernel_rfl) (by kernel_rfl) (fun _ _ _ h => h) (by rfl) hHeld ?_
              try simp only [Act.put, sI, sZ, sS]
              refine pass_op (i := 21) (d := 33) rfl rfl (by kernel_rfl) (by kernel_rfl) (by kernel_rfl) (fun _ _ _ h => h) (by rfl) hHeld ?_
              try simp only [Act.put, sI, sZ, sS]
              refine pass_op (i := 22) (d := 34) rfl rfl (by kernel_rfl) (by kernel_rfl) (by kernel_rfl) (fun _ _ _ h => h) (by rfl) hHeld ?_
              try simp only [Act.put, sI, sZ, sS]
              refine pass_op (i := 23) (d := 35) rfl rfl (by kernel_rfl) (by kernel_rfl) (by kernel_rfl) (fun _ _ _ h => h) (by rfl) hHeld ?_
              try simp only [Act.put, sI, sZ, sS]
              refine pass_op (i := 24) (d := 36) rfl rfl (by kernel_rfl) (by kernel_rfl) (by kernel_rfl) (fun _ _ _ h => h) (by rfl) hHeld ?_
              try simp only [Act.put, sI, sZ, sS]
              refine pass_op (i := 25) (d := 37) rfl rfl (by kernel_rfl) (by kernel_rfl) (by kernel_rfl) (fun _ _ _ h => h) (by rfl) hHeld ?_
              try simp only [Act.put, sI, sZ, sS]
              refine pass_op (i := 26) (d := 38) rfl rfl (by kernel_rfl) (by kernel_rfl) (by kernel_rfl) (fun _ _ _ h => h) (by rfl) hHeld ?_
              try simp only [Act.put, sI, sZ, sS]
              refine pass_op (i := 27) (d := 39) rfl rfl (by kernel_rfl) (by kernel_rfl) (by kernel_rfl) (fun _ _ _ h => h) (by rfl) hHeld ?_
              try simp only [Act.put, sI, sZ, sS]
              refine pass_op (i := 28) (d := 40) rfl rfl (by kernel_rfl) (by kernel_rfl) (by kernel_rfl) (fun _ _ _ h => h) (by rfl) hHeld ?_
              try simp only [Act.put, sI, sZ, sS]
              refine pass_op (i := 29) (d := 41) rfl rfl (by kernel_rfl) (by kernel_rfl) (by kernel_rfl) (fun _ _ _ h => h) (by rfl) hHeld ?_
              try simp only [Act.put, sI, sZ, sS]
              refine pass_op (i := 30) (d := 42) rfl rfl (by kernel_rfl) (by kernel_rfl) (by kernel_rfl) (fun _ _ _ h => h) (by rfl) hHeld ?_
              try simp only [Act.put, sI, sZ, sS]
              refine pass_op (i := 31) (d := 43) rfl rfl (by kernel_rfl) (by kernel_rfl) (by kernel_rfl) (fun _ _ _ h => h) (by rfl) hHeld ?_
              try simp only [Act.put, sI, sZ, sS]
              refine pass_op (i := 32) (d := 44) rfl rfl (by kernel_rfl) (by kernel_rfl) (by kernel_rfl) (fun _ _ _ h => h) (by rfl) hHeld ?_
              try simp only [Act.put, sI, sZ, sS]
              refine pass_op (i := 33) (d := 45) rfl rfl (by kernel_rfl) (by kernel_rfl) (by kernel_rfl) (fun _ _ _ h => h) (by rfl) hHeld ?_
              try simp only [Act.put, sI, sZ, sS]
              refine pass_op (i := 34) (d := 46) rfl rfl (by kernel_rfl) (by kernel_rfl) (by kernel_rfl) (fun _ _ _ h => h) (by rfl) hHeld ?_
              try simp only [Act.put, sI, sZ, sS]
              refine pass_op (i := 35) (d := 47) rfl rfl (by kernel_rfl) (by kernel_rfl) (by kernel_rfl) (fun _ _ _ h => h) (by rfl) hHeld ?_
              try simp only [Act.put, sI, sZ, sS]
              refine pass_op (i := 36) (d := 48) rfl rfl (by kernel_rfl) (by kernel_rfl) (by kernel_rfl) (fun _ _ _ h => h) (by rfl) hHeld ?_
              try simp only [Act.put, sI, sZ, sS]
              refine pass_op (i := 37) (d := 49) rfl rfl (by kernel_rfl) (by kernel_rfl) (by kernel_rfl) (fun _ _ _ h => h) (by rfl) hHeld ?_
              try simp only [Act.put, sI, sZ, sS]
              refine pass_op (i := 38) (d := 50) rfl rfl (by kernel_rfl) (by kernel_rfl) (by kernel_rfl) (fun _ _ _ h => h) (by rfl) hHeld ?_
              try simp only [Act.put, sI, sZ, sS]
              refine pass_op (i := 39) (d := 51) rfl rfl (by kernel_rfl) (by kernel_rfl) (by kernel_rfl) (fun _ _ _ h => h) (by rfl) hHeld ?_
              try simp only [Act.put, sI, sZ, sS]
              refine pass_op (i := 40) (d := 52) rfl rfl (by kernel_rfl) (by kernel_rfl) (by kernel_rfl) (fun _ _ _ h => h) (by rfl) hHeld ?_
              try simp only [Act.put, sI, sZ, sS]
              refine pass_op (i := 41) (d := 53) rfl rfl (by kernel_rfl) (by kernel_rfl) (by kernel_rfl) (fun _ _ _ h => h) (by rfl) hHeld ?_
              try simp only [Act.put, sI, sZ, sS]
              refine take_op (i := 42) (d := 54) (OP := Op.pick (Operand.tmp 29) (Operand.const (Value.bool true)) (Operand.tmp 53)) (T := 4) (v := ?v18) rfl rfl rfl rfl (by kernel_rfl) (by kernel_rfl) (by kernel_rfl) (fun _ _ _ h => h) (by rfl) ?h18 hHeld ?r18
              case h18 => (intro w' hSw; (try dsimp only at hSw); go_simp <;> with_reducible rfl)
              try simp only [Act.put, sI, sZ, sS]
              refine take_op (i := 43) (d := 55) (OP := Op.pick (Operand.tmp 16) (Operand.tmp 54) (Operand.const (Value.bool false))) (T := 4) (v := ?v19) rfl rfl rfl rfl (by kernel_rfl) (by kernel_rfl) (by kernel_rfl) (fun _ _ _ h => h) (by rfl) ?h19 hHeld ?r19
              case h19 => (intro w' hSw; (try dsimp only at hSw); go_simp <;> with_reducible rfl)
              try simp only [Act.put, sI, sZ, sS]
              refine wpAnyH_done (by kernel_rfl) ?_ _
              have H9 := hide HW5.out
              clear HS hcall HW5
              go_wp2
              go_roundw
              case rel => exact ⟨n + 1, by go_num, by omega, hide H9.out⟩
              case measure => simp [intOf]; omega
          · have hnP : n = P := by omega
            have hge := posQ_at _ out ((g', r', lb', m', ix'), y') (by rw [← HP.out, ← hnP]; exact hq)
            have heq := fun W => run_eq52' (g', r', lb', m', ix') (g, r, lb, m, ix) W
            dsimp only [cmpQ] at hge
            clear hnP
            by_cases hc0 : cmpT (g', r', lb', m', ix') (g, r, lb, m, ix) = 0
            · rw [if_pos hc0] at hge
              have hb : Op.bytesLess y'.toList y.toList = false := by rw [Pm.less_B]; simpa using hge
              rw [decide_eq_true (ord_T.eq _ _ hc0)] at heq
              rw [hc0] at hcall
              clear hge hq hqok hc0
              dsimp only [svT, sv] at heq hcall
              go_upto_region 6 with fail
              refine wp_region_held_drew (S := (fun w' => w'.cell? ⟨gb, goff + n * 6, none⟩ = some (.int .i64 g') ∧ w'.cell? ⟨gb, goff + n * 6 + 1, none⟩ = some (.int .i64 r') ∧ w'.cell? ⟨gb, goff + n * 6 + 2, none⟩ = some (.string lb') ∧ w'.cell? ⟨gb, goff + n * 6 + 3, none⟩ = some (.int .i64 m') ∧ w'.cell? ⟨gb, goff + n * 6 + 4, none⟩ = some (.int .i64 ix') ∧ w'.cell? ⟨gb, goff + n * 6 + 5, none⟩ = some (.string y') ∧ w'.cell? ⟨b, off + i * 6, none⟩ = some (.int .i64 g) ∧ w'.cell? ⟨b, off + i * 6 + 1, none⟩ = some (.int .i64 r) ∧ w'.cell? ⟨b, off + i * 6 + 2, none⟩ = some (.string lb) ∧ w'.cell? ⟨b, off + i * 6 + 3, none⟩ = some (.int .i64 m) ∧ w'.cell? ⟨b, off + i * 6 + 4, none⟩ = some (.int .i64 ix) ∧ w'.cell? ⟨b, off + i * 6 + 5, none⟩ = some (.string y))) (by kernel_rfl) (by exact HS.out _ (drew_below wr)) (fun hHeld => ?_)
              try dsimp only at hHeld
              refine take_op (i := 0) (d := 12) (OP := Op.move (Operand.tmp 5)) (T := 3) (v := ?v95) rfl rfl rfl rfl (by kernel_rfl) (by kernel_rfl) (by kernel_rfl) (fun _ _ _ h => h) (by rfl) ?h95 hHeld ?r95
              case h95 => (intro w' hSw; (try dsimp only at hSw); go_simp <;> with_reducible rfl)
              try simp only [Act.put, sI, sZ, sS]
              refine take_op (i := 1) (d := 13) (OP := Op.move (Operand.tmp 3)) (T := 22) (v := ?v96) rfl rfl rfl rfl (by kernel_rfl) (by kernel_rfl) (by kernel_rfl) (fun _ _ _ h => h) (by rfl) ?h96 hHeld ?r96
              case h96 => (intro w' hSw; (try dsimp only at hSw); go_simp <;> with_reducible rfl)
              try simp only [Act.put, sI, sZ, sS]
              refine take_op (i := 2) (d := 14) (OP := Op.call { callee := Callee.builtin Builtin.len, args := #[Operand.tmp 13], argTypes := #[22] }) (T := 3) (v := ?v97) rfl rfl rfl rfl (by kernel_rfl) (by kernel_rfl) (by kernel_rfl) (fun _ _ _ h => h) (by rfl) ?h97 hHeld ?r97
              case h97 => (intro w' hSw; (try dsimp only at hSw); go_simp <;> with_reducible rfl)
              try simp only [Act.put, sI, sZ, sS]
              refine take_op (i := 3) (d := 15) (OP := Op.binOp BinOp.lss 3 (Operand.tmp 12) (Operand.tmp 14) 3) (T := 4) (v := ?v98) rfl rfl rfl rfl (by kernel_rfl) (by kernel_rfl) (by kernel_rfl) (fun _ _ _ h => h) (by rfl) ?h98 hHeld ?r98
              case h98 => (intro w' hSw; (try dsimp only at hSw); go_simp <;> with_reducible rfl)
              try simp only [Act.put, sI, sZ, sS]
              refine take_op (i := 4) (d := 16) (OP := Op.move (Operand.tmp 15)) (T := 4) (v := ?v99) rfl rfl rfl rfl (by kernel_rfl) (by kernel_rfl) (by kernel_rfl) (fun _ _ _ h => h) (by rfl) ?h99 hHeld ?r99
              case h99 => (intro w' hSw; (try dsimp only at hSw); go_simp <;> with_reducible rfl)
              try simp only [Act.put, sI, sZ, sS]
              refine take_op (i := 5) (d := 17) (OP := Op.move (Operand.tmp 3)) (T := 22) (v := ?v100) rfl rfl rfl rfl (by kernel_rfl) (by kernel_rfl) (by kernel_rfl) (fun _ _ _ h => h) (by rfl) ?h100 hHeld ?r100
              case h100 => (intro w' hSw; (try dsimp only at hSw); go_simp <;> with_reducible rfl)
              try simp only [Act.put, sI, sZ, sS]
              refine take_op (i := 6) (d := 18) (OP := Op.move (Operand.tmp 5)) (T := 3) (v := ?v101) rfl rfl rfl rfl (by kernel_rfl) (by kernel_rfl) (by kernel_rfl) (fun _ _ _ h => h) (by rfl) ?h101 hHeld ?r101
              case h101 => (intro w' hSw; (try dsimp only at hSw); go_simp <;> with_reducible rfl)
              try simp only [Act.put, sI, sZ, sS]
              refine take_op (i := 7) (d := 19) (OP := Op.indexAddr 22 (Operand.tmp 17) (Operand.tmp 18)) (T := 0) (v := ?v102) rfl rfl rfl rfl (by kernel_rfl) (by kernel_rfl) (by kernel_rfl) (fun _ _ _ h => h) (by rfl) ?h102 hHeld ?r102
              case h102 => (intro w' hSw; (try dsimp only at hSw); go_simp <;> with_reducible rfl)
              try simp only [Act.put, sI, sZ, sS]
              refine take_op (i := 8) (d := 20) (OP := Op.fieldAddr 53 (Operand.tmp 19) 0) (T := 0) (v := ?v103) rfl rfl rfl rfl (by kernel_rfl) (by kernel_rfl) (by kernel_rfl) (fun _ _ _ h => h) (by rfl) ?h103 hHeld ?r103
              case h103 => (intro w' hSw; (try dsimp only at hSw); go_simp <;> with_reducible rfl)
              try simp only [Act.put, sI, sZ, sS]
              refine take_op (i := 9) (d := 21) (OP := Op.load 43 (Operand.tmp 20)) (T := 43) (v := ?v104) rfl rfl rfl rfl (by kernel_rfl) (by kernel_rfl) (by kernel_rfl) (fun _ _ _ h => h) (by rfl) ?h104 hHeld ?r104
              case h104 => (intro w' hSw; (try dsimp only at hSw); go_simp <;> with_reducible rfl)
              try simp only [Act.put, sI, sZ, sS]
              refine take_op (i := 10) (d := 22) (OP := Op.move (Operand.tmp 0)) (T := 22) (v := ?v105) rfl rfl rfl rfl (by kernel_rfl) (by kernel_rfl) (by kernel_rfl) (fun _ _ _ h => h) (by rfl) ?h105 hHeld ?r105
              case h105 => (intro w' hSw; (try dsimp only at hSw); go_simp <;> with_reducible rfl)
              try simp only [Act.put, sI, sZ, sS]
              refine take_op (i := 11) (d := 23) (OP := Op.move (Operand.tmp 4)) (T := 3) (v := ?v106) rfl rfl rfl rfl (by kernel_rfl) (by kernel_rfl) (by kernel_rfl) (fun _ _ _ h => h) (by rfl) ?h106 hHeld ?r106
              case h106 => (intro w' hSw; (try dsimp only at hSw); go_simp <;> with_reducible rfl)
              try simp only [Act.put, sI, sZ, sS]
              refine take_op (i := 12) (d := 24) (OP := Op.indexAddr 22 (Operand.tmp 22) (Operand.tmp 23)) (T := 0) (v := ?v107) rfl rfl rfl rfl (by kernel_rfl) (by kernel_rfl) (by kernel_rfl) (fun _ _ _ h => h) (by rfl) ?h107 hHeld ?r107
              case h107 => (intro w' hSw; (try dsimp only at hSw); go_simp <;> with_reducible rfl)
              try simp only [Act.put, sI, sZ, sS]
              refine take_op (i := 13) (d := 25) (OP := Op.fieldAddr 53 (Operand.tmp 24) 0) (T := 0) (v := ?v108) rfl rfl rfl rfl (by kernel_rfl) (by kernel_rfl) (by kernel_rfl) (fun _ _ _ h => h) (by rfl) ?h108 hHeld ?r108
              case h108 => (intro w' hSw; (try dsimp only at hSw); go_simp <;> with_reducible rfl)
              try simp only [Act.put, sI, sZ, sS]
              refine take_op (i := 14) (d := 26) (OP := Op.load 43 (Operand.tmp 25)) (T := 43) (v := ?v109) rfl rfl rfl rfl (by kernel_rfl) (by kernel_rfl) (by kernel_rfl) (fun _ _ _ h => h) (by rfl) ?h109 hHeld ?r109
              case h109 => (intro w' hSw; (try dsimp only at hSw); go_simp <;> with_reducible rfl)
              try simp only [Act.put, sI, sZ, sS]
              refine call_op (i := 15) (d := 27) (OP := Op.call { callee := Callee.value (Operand.func 114), args := #[Operand.tmp 21, Operand.tmp 26], argTypes := #[43, 43] }) (T := 3) (f := 114) (args := #[.agg #[.int .i64 g', .int .i64 r', .string lb', .int .i64 m', .int .i64 ix'], .agg #[.int .i64 g, .int .i64 r, .string lb, .int .i64 m, .int .i64 ix]]) rfl rfl rfl rfl (by kernel_rfl) (by rfl) (by go_simp) ?_
              refine (hcall _).mono ?_
              rintro e w5 ⟨rfl, b5⟩
              have bb5 := (drew_below wr).trans (b5.mono (drew_below wr).size)
              have q5 := HS.out w5 bb5
              have HW5 := hide (HI.out.trans (bb5.mono hs1))
              clear b5 bb5
              refine ⟨_, rfl, q5, ?_⟩
              replace hHeld := q5
              try simp only [Act.put, sI, sZ, sS]
              refine take_op (i := 16) (d := 28) (OP := Op.binOp BinOp.lss 3 (Operand.tmp 27) (Operand.const (Value.int IntKind.i64 0)) 3) (T := 4) (v := ?v110) rfl rfl rfl rfl (by kernel_rfl) (by kernel_rfl) (by kernel_rfl) (fun _ _ _ h => h) (by rfl) ?h110 hHeld ?r110
              case h110 => (intro w' hSw; (try dsimp only at hSw); go_simp <;> with_reducible rfl)
              try simp only [Act.put, sI, sZ, sS]
              refine take_op (i := 17) (d := 29) (OP := Op.move (Operand.tmp 28)) (T := 4) (v := ?v111) rfl rfl rfl rfl (by kernel_rfl) (by kernel_rfl) (by kernel_rfl) (fun _ _ _ h => h) (by rfl) ?h111 hHeld ?r111
              case h111 => (intro w' hSw; (try dsimp only at hSw); go_simp <;> with_reducible rfl)
              try simp only [Act.put, sI, sZ, sS]
              refine take_op (i := 18) (d := 30) (OP := Op.move (Operand.tmp 3)) (T := 22) (v := ?v112) rfl rfl rfl rfl (by kernel_rfl) (by kernel_rfl) (by kernel_rfl) (fun _ _ _ h => h) (by rfl) ?h112 hHeld ?r112
              case h112 => (intro w' hSw; (try dsimp only at hSw); go_simp <;> with_reducible rfl)
              try simp only [Act.put, sI, sZ, sS]
              refine take_op (i := 19) (d := 31) (OP := Op.move (Operand.tmp 5)) (T := 3) (v := ?v113) rfl rfl rfl rfl (by kernel_rfl) (by kernel_rfl) (by kernel_rfl) (fun _ _ _ h => h) (by rfl) ?h113 hHeld ?r113
              case h113 => (intro w' hSw; (try dsimp only at hSw); go_simp <;> with_reducible rfl)
              try simp only [Act.put, sI, sZ, sS]
              refine take_op (i := 20) (d := 32) (OP := Op.indexAddr 22 (Operand.tmp 30) (Operand.tmp 31)) (T := 0) (v := ?v114) rfl rfl rfl rfl (by kernel_rfl) (by kernel_rfl) (by kernel_rfl) (fun _ _ _ h => h) (by rfl) ?h114 hHeld ?r114
              case h114 => (intro w' hSw; (try dsimp only at hSw); go_simp <;> with_reducible rfl)
              try simp only [Act.put, sI, sZ, sS]
              refine take_op (i := 21) (d := 33) (OP := Op.fieldAddr 53 (Operand.tmp 32) 0) (T := 0) (v := ?v115) rfl rfl rfl rfl (by kernel_rfl) (by kernel_rfl) (by kernel_rfl) (fun _ _ _ h => h) (by rfl) ?h115 hHeld ?r115
              case h115 => (intro w' hSw; (try dsimp only at hSw); go_simp <;> with_reducible rfl)
              try simp only [Act.put, sI, sZ, sS]
              refine take_op (i := 22) (d := 34) (OP := Op.load 43 (Operand.tmp 33)) (T := 43) (v := ?v116) rfl rfl rfl rfl (by kernel_rfl) (by kernel_rfl) (by kernel_rfl) (fun _ _ _ h => h) (by rfl) ?h116 hHeld ?r116
              case h116 => (intro w' hSw; (try dsimp only at hSw); go_simp <;> with_reducible rfl)
              try simp only [Act.put, sI, sZ, sS]
              refine take_op (i := 23) (d := 35) (OP := Op.move (Operand.tmp 0)) (T := 22) (v := ?v117) rfl rfl rfl rfl (by kernel_rfl) (by kernel_rfl) (by kernel_rfl) (fun _ _ _ h => h) (by rfl) ?h117 hHeld ?r117
              case h117 => (intro w' hSw; (try dsimp only at hSw); go_simp <;> with_reducible rfl)
              try simp only [Act.put, sI, sZ, sS]
              refine take_op (i := 24) (d := 36) (OP := Op.move (Operand.tmp 4)) (T := 3) (v := ?v118) rfl rfl rfl rfl (by kernel_rfl) (by kernel_rfl) (by kernel_rfl) (fun _ _ _ h => h) (by rfl) ?h118 hHeld ?r118
              case h118 => (intro w' hSw; (try dsimp only at hSw); go_simp <;> with_reducible rfl)
              try simp only [Act.put, sI, sZ, sS]
              refine take_op (i := 25) (d := 37) (OP := Op.indexAddr 22 (Operand.tmp 35) (Operand.tmp 36)) (T := 0) (v := ?v119) rfl rfl rfl rfl (by kernel_rfl) (by kernel_rfl) (by kernel_rfl) (fun _ _ _ h => h) (by rfl) ?h119 hHeld ?r119
              case h119 => (intro w' hSw; (try dsimp only at hSw); go_simp <;> with_reducible rfl)
              try simp only [Act.put, sI, sZ, sS]
              refine take_op (i := 26) (d := 38) (OP := Op.fieldAddr 53 (Operand.tmp 37) 0) (T := 0) (v := ?v120) rfl rfl rfl rfl (by kernel_rfl) (by kernel_rfl) (by kernel_rfl) (fun _ _ _ h => h) (by rfl) ?h120 hHeld ?r120
              case h120 => (intro w' hSw; (try dsimp only at hSw); go_simp <;> with_reducible rfl)
              try simp only [Act.put, sI, sZ, sS]
              refine take_op (i := 27) (d := 39) (OP := Op.load 43 (Operand.tmp 38)) (T := 43) (v := ?v121) rfl rfl rfl rfl (by kernel_rfl) (by kernel_rfl) (by kernel_rfl) (fun _ _ _ h => h) (by rfl) ?h121 hHeld ?r121
              case h121 => (intro w' hSw; (try dsimp only at hSw); go_simp <;> with_reducible rfl)
              try simp only [Act.put, sI, sZ, sS]
              refine take_op (i := 28) (d := 40) (OP := Op.binOp BinOp.eql 43 (Operand.tmp 34) (Operand.tmp 39) 43) (T := 4) (v := ?v122) rfl rfl rfl rfl (by kernel_rfl) (by kernel_rfl) (by kernel_rfl) (fun _ _ _ h => h) (by rfl) ?h122 hHeld ?r122
              case h122 => (intro w' hSw; (try dsimp only at hSw); go_simp <;> with_reducible rfl)
              try simp only [Act.put, sI, sZ, sS]
              refine take_op (i := 29) (d := 41) (OP := Op.move (Operand.tmp 40)) (T := 4) (v := ?v123) rfl rfl rfl rfl (by kernel_rfl) (by kernel_rfl) (by kernel_rfl) (fun _ _ _ h => h) (by rfl) ?h123 hHeld ?r123
              case h123 => (intro w' hSw; (try dsimp only at hSw); go_simp <;> with_reducible rfl)
              try simp only [Act.put, sI, sZ, sS]
              refine take_op (i := 30) (d := 42) (OP := Op.move (Operand.tmp 3)) (T := 22) (v := ?v124) rfl rfl rfl rfl (by kernel_rfl) (by kernel_rfl) (by kernel_rfl) (fun _ _ _ h => h) (by rfl) ?h124 hHeld ?r124
              case h124 => (intro w' hSw; (try dsimp only at hSw); go_simp <;> with_reducible rfl)
              try simp only [Act.put, sI, sZ, sS]
              refine take_op (i := 31) (d := 43) (OP := Op.move (Operand.tmp 5)) (T := 3) (v := ?v125) rfl rfl rfl rfl (by kernel_rfl) (by kernel_rfl) (by kernel_rfl) (fun _ _ _ h => h) (by rfl) ?h125 hHeld ?r125
              case h125 => (intro w' hSw; (try dsimp only at hSw); go_simp <;> with_reducible rfl)
              try simp only [Act.put, sI, sZ, sS]
              refine take_op (i := 32) (d := 44) (OP := Op.indexAddr 22 (Operand.tmp 42) (Operand.tmp 43)) (T := 0) (v := ?v126) rfl rfl rfl rfl (by kernel_rfl) (by kernel_rfl) (by kernel_rfl) (fun _ _ _ h => h) (by rfl) ?h126 hHeld ?r126
              case h126 => (intro w' hSw; (try dsimp only at hSw); go_simp <;> with_reducible rfl)
              try simp only [Act.put, sI, sZ, sS]
              refine take_op (i := 33) (d := 45) (OP := Op.fieldAddr 53 (Operand.tmp 44) 1) (T := 0) (v := ?v127) rfl rfl rfl rfl (by kernel_rfl) (by kernel_rfl) (by kernel_rfl) (fun _ _ _ h => h) (by rfl) ?h127 hHeld ?r127
              case h127 => (intro w' hSw; (try dsimp only at hSw); go_simp <;> with_reducible rfl)
              try simp only [Act.put, sI, sZ, sS]
              refine take_op (i := 34) (d := 46) (OP := Op.load 9 (Operand.tmp 45)) (T := 9) (v := ?v128) rfl rfl rfl rfl (by kernel_rfl) (by kernel_rfl) (by kernel_rfl) (fun _ _ _ h => h) (by rfl) ?h128 hHeld ?r128
              case h128 => (intro w' hSw; (try dsimp only at hSw); go_simp <;> with_reducible rfl)
              try simp only [Act.put, sI, sZ, sS]
              refine take_op (i := 35) (d := 47) (OP := Op.move (Operand.tmp 0)) (T := 22) (v := ?v129) rfl rfl rfl rfl (by kernel_rfl) (by kernel_rfl) (by kernel_rfl) (fun _ _ _ h => h) (by rfl) ?h129 hHeld ?r129
              case h129 => (intro w' hSw; (try dsimp only at hSw); go_simp <;> with_reducible rfl)
              try simp only [Act.put, sI, sZ, sS]
              refine take_op (i := 36) (d := 48) (OP := Op.move (Operand.tmp 4)) (T := 3) (v := ?v130) rfl rfl rfl rfl (by kernel_rfl) (by kernel_rfl) (by kernel_rfl) (fun _ _ _ h => h) (by rfl) ?h130 hHeld ?r130
              case h130 => (intro w' hSw; (try dsimp only at hSw); go_simp <;> with_reducible rfl)
              try simp only [Act.put, sI, sZ, sS]
              refine take_op (i := 37) (d := 49) (OP := Op.indexAddr 22 (Operand.tmp 47) (Operand.tmp 48)) (T := 0) (v := ?v131) rfl rfl rfl rfl (by kernel_rfl) (by kernel_rfl) (by kernel_rfl) (fun _ _ _ h => h) (by rfl) ?h131 hHeld ?r131
              case h131 => (intro w' hSw; (try dsimp only at hSw); go_simp <;> with_reducible rfl)
              try simp only [Act.put, sI, sZ, sS]
              refine take_op (i := 38) (d := 50) (OP := Op.fieldAddr 53 (Operand.tmp 49) 1) (T := 0) (v := ?v132) rfl rfl rfl rfl (by kernel_rfl) (by kernel_rfl) (by kernel_rfl) (fun _ _ _ h => h) (by rfl) ?h132 hHeld ?r132
              case h132 => (intro w' hSw; (try dsimp only at hSw); go_simp <;> with_reducible rfl)
              try simp only [Act.put, sI, sZ, sS]
              refine take_op (i := 39) (d := 51) (OP := Op.load 9 (Operand.tmp 50)) (T := 9) (v := ?v133) rfl rfl rfl rfl (by kernel_rfl) (by kernel_rfl) (by kernel_rfl) (fun _ _ _ h => h) (by rfl) ?h133 hHeld ?r133
              case h133 => (intro w' hSw; (try dsimp only at hSw); go_simp <;> with_reducible rfl)
              try simp only [Act.put, sI, sZ, sS]
              refine take_op (i := 40) (d := 52) (OP := Op.binOp BinOp.lss 9 (Operand.tmp 46) (Operand.tmp 51) 9) (T := 4) (v := ?v134) rfl rfl rfl rfl (by kernel_rfl) (by kernel_rfl) (by kernel_rfl) (fun _ _ _ h => h) (by rfl) ?h134 hHeld ?r134
              case h134 => (intro w' hSw; (try dsimp only at hSw); go_simp <;> with_reducible rfl)
              try simp only [Act.put, sI, sZ, sS]
              refine take_op (i := 41) (d := 53) (OP := Op.pick (Operand.tmp 41) (Operand.tmp 52) (Operand.const (Value.bool false))) (T := 4) (v := ?v135) rfl rfl rfl rfl (by kernel_rfl) (by kernel_rfl) (by kernel_rfl) (fun _ _ _ h => h) (by rfl) ?h135 hHeld ?r135
              case h135 => (intro w' hSw; (try dsimp only at hSw); go_simp <;> with_reducible rfl)
              try simp only [Act.put, sI, sZ, sS]
              refine take_op (i := 42) (d := 54) (OP := Op.pick (Operand.tmp 29) (Operand.const (Value.bool true)) (Operand.tmp 53)) (T := 4) (v := ?v136) rfl rfl rfl rfl (by kernel_rfl) (by kernel_rfl) (by kernel_rfl) (fun _ _ _ h => h) (by rfl) ?h136 hHeld ?r136
              case h136 => (intro w' hSw; (try dsimp only at hSw); go_simp <;> with_reducible rfl)
              try simp only [Act.put, sI, sZ, sS]
              refine take_op (i := 43) (d := 55) (OP := Op.pick (Operand.tmp 16) (Operand.tmp 54) (Operand.const (Value.bool false))) (T := 4) (v := ?v137) rfl rfl rfl rfl (by kernel_rfl) (by kernel_rfl) (by kernel_rfl) (fun _ _ _ h => h) (by rfl) ?h137 hHeld ?r137
              case h137 => (intro w' hSw; (try dsimp only at hSw); go_simp <;> with_reducible rfl)
              try simp only [Act.put, sI, sZ, sS]
              refine wpAnyH_done (by kernel_rfl) ?_ _
              have HQ := hide HW5.out
              clear HS hcall heq HW5 hb
              obtain ⟨wq, hwq⟩ : ∃ q, w5 = q := ⟨_, rfl⟩
              rw [hwq] at HQ ⊢
              clear hwq
              have hfin : inlQ [] (l.take (i + 1)) = out.take n ++ [((g, r, lb, m, ix), y)] ++ out.drop n := by
                have hnP : n = posQ ((g, r, lb, m, ix), y) out := by rw [← HP.out]; omega
                rw [HX.out.2, hnP]; rfl
              have HF := hide hfin
              have HZ := HQ
              obtain ⟨wz, hwz⟩ : ∃ q, wq = q := ⟨_, rfl⟩
              clear hfin HQ
              go_upto_region 8 with fail
              rw [hwz] at HZ ⊢
              clear hwz
              obtain ⟨hro, hspot, hzc⟩ := HO.out.reo
              have hOz := hro.below HZ.out
              have hc3 : out.length ≤ c3 := HR.out.2.2.2
              have hnl : n ≤ out.length := by omega
              obtain ⟨A1, r1, q1, m1⟩ := slice_hi hOz hnl hc3 hspot
              obtain ⟨A2, r2, q2, m2⟩ := slice_lo hOz hnl hc3 hspot
              obtain ⟨b', off', e', f0, f1, f2, f3, f4, f5⟩ := (HR.out.1.below HZ.out).cells HX.out.1
              injection e' with e'
              injection e' with e1 e2
              subst e1 e2
              simp only at f0 f1 f2 f3 f4 f5
              have hbz : b < wz.heap.size := World.block_lt_of_cell? _ _ f0
              have hl1 : (out.take n).length = n := by rw [List.length_take]; omega
              have hl2 : (out.drop n).length = out.length - n := by rw [List.length_drop]
              have hap1 : ∀ W, Below wz.heap.size wz W → ∃ v9 w9, (Builtin.append_ #[22, 22] 22 #[.slice none 0 0, .slice A1 n c3]).run Tryz.prog W = .ok v9 w9 ∧ Oe w9 wz.heap.size v9 (out.take n) ∧ Below W.heap.size W w9 := fun W hW => by
                obtain ⟨a', c', w', h1, h2, h3⟩ := app_elems (Oe.nil W W.heap.size) (fun e => hzc (m1 e)) (q1.below hW) (by simp; omega) (Nat.le_refl _)
                rw [hl1] at h1
                exact ⟨_, w', h1, h2.lift hW.size, h3⟩
              have hap2 : ∀ (W : World) (v : Value) (R : Nat), Below wz.heap.size wz W → Oe W wz.heap.size v (out.take n) → Re W (some ⟨R, 0, none⟩) [((g, r, lb, m, ix), y)] → ∃ v9 w9, (Builtin.append_ #[22, 22] 22 #[v, .slice (some ⟨R, 0, none⟩) 1 1]).run Tryz.prog W = .ok v9 w9 ∧ Oe w9 wz.heap.size v9 (out.take n ++ [((g, r, lb, m, ix), y)]) ∧ Below wz.heap.size W w9 := fun W v R hW ho hr => by
                obtain ⟨a', c', w', h1, h2, h3⟩ := app_elems (c := 1) ho (by simp) hr (by simp; omega) hW.size
                exact ⟨_, w', h1, h2, h3⟩
              have hap3 : ∀ (W : World) (v : Value), Below wz.heap.size wz W → Oe W wz.heap.size v (out.take n ++ [((g, r, lb, m, ix), y)]) → ∃ v9 w9, (Builtin.append_ #[22, 22] 22 #[v, .slice A2 (out.length - n) (c3 - n)]).run Tryz.prog W = .ok v9 w9 ∧ Oe w9 wz.heap.size v9 (out.take n ++ [((g, r, lb, m, ix), y)] ++ out.drop n) ∧ Below wz.heap.size W w9 := fun W v hW ho => by
                obtain ⟨a', c', w', h1, h2, h3⟩ := app_elems (c := c3 - n) ho (fun e => by rw [hzc (m2 e)]; simp) (q2.below hW) (by simp; omega) hW.size
                rw [hl2] at h1
                exact ⟨_, w', h1, h2, h3⟩
              clear hro hOz q1 q2 m1 m2 hl1 hl2 hspot hzc
              refine wp_region_held_drew (S := (fun w' => Below wz.heap.size wz w')) (by kernel_rfl) (by exact (Below.refl _ wz).drew) (fun hHeld => ?_)
              try dsimp only at hHeld
              generalize wz.drew = W1 at hHeld ⊢
              refine take_op (i := 0) (d := 58) (OP := Op.move (Operand.tmp 3)) (T := 22) (v := ?vsy138) rfl rfl rfl rfl (by kernel_rfl) (by kernel_rfl) (by kernel_rfl) (fun _ _ _ h => h) (by rfl) ?hsy138 hHeld ?rsy138
              case hsy138 => (intro w' hSw; (try dsimp only at hSw); go_simp <;> with_reducible rfl)
              try simp only [Act.put, sI, sZ, sS]
              refine take_op (i := 1) (d := 59) (OP := Op.move (Operand.tmp 5)) (T := 3) (v := ?vsy139) rfl rfl rfl rfl (by kernel_rfl) (by kernel_rfl) (by kernel_rfl) (fun _ _ _ h => h) (by rfl) ?hsy139 hHeld ?rsy139
              case hsy139 => (intro w' hSw; (try dsimp only at hSw); go_simp <;> with_reducible rfl)
              try simp only [Act.put, sI, sZ, sS]
              refine take_op (i := 2) (d := 60) (OP := Op.slice 22 (Operand.tmp 58) none (some (Operand.tmp 59)) none) (T := 22) (v := .slice A1 n c3) rfl rfl rfl rfl (by kernel_rfl) (by kernel_rfl) (by kernel_rfl) (fun _ _ _ h => h) (by rfl) (fun w' _ => exec_slhi rfl rfl (r1 w')) hHeld ?_
              try simp only [Act.put, sI, sZ, sS]
              refine take_op (i := 4) (d := 62) (OP := Op.move (Operand.tmp 0)) (T := 22) (v := ?vsy140) rfl rfl rfl rfl (by kernel_rfl) (by kernel_rfl) (by kernel_rfl) (fun _ _ _ h => h) (by rfl) ?hsy140 hHeld ?rsy140
              case hsy140 => (intro w' hSw; (try dsimp only at hSw); go_simp <;> with_reducible rfl)
              try simp only [Act.put, sI, sZ, sS]
              refine take_op (i := 5) (d := 63) (OP := Op.move (Operand.tmp 4)) (T := 3) (v := ?vsy141) rfl rfl rfl rfl (by kernel_rfl) (by kernel_rfl) (by kernel_rfl) (fun _ _ _ h => h) (by rfl) ?hsy141 hHeld ?rsy141
              case hsy141 => (intro w' hSw; (try dsimp only at hSw); go_simp <;> with_reducible rfl)
              try simp only [Act.put, sI, sZ, sS]
              refine take_op (i := 6) (d := 64) (OP := Op.indexAddr 22 (Operand.tmp 62) (Operand.tmp 63)) (T := 0) (v := .pointer (some ⟨b, off + i * 6, none⟩)) rfl rfl rfl rfl (by kernel_rfl) (by kernel_rfl) (by kernel_rfl) (fun _ _ _ h => h) (by rfl) (fun w' _ => exec_ixE rfl rfl z1) hHeld ?_
              try simp only [Act.put, sI, sZ, sS]
              refine take_op (i := 7) (d := 65) (OP := Op.load 53 (Operand.tmp 64)) (T := 53) (v := ev ((g, r, lb, m, ix), y)) rfl rfl rfl rfl (by kernel_rfl) (by kernel_rfl) (by kernel_rfl) (fun _ _ _ h => h) (by rfl) (fun w' hSw => exec_ld53 rfl ((hSw.cell hbz).trans f0) ((hSw.cell hbz).trans f1) ((hSw.cell hbz).trans f2) ((hSw.cell hbz).trans f3) ((hSw.cell hbz).trans f4) ((hSw.cell hbz).trans f5)) hHeld ?_
              try simp only [Act.put, sI, sZ, sS]
              refine take_op (i := 10) (d := 68) (OP := Op.move (Operand.tmp 3)) (T := 22) (v := ?vsy142) rfl rfl rfl rfl (by kernel_rfl) (by kernel_rfl) (by kernel_rfl) (fun _ _ _ h => h) (by rfl) ?hsy142 hHeld ?rsy142
              case hsy142 => (intro w' hSw; (try dsimp only at hSw); go_simp <;> with_reducible rfl)
              try simp only [Act.put, sI, sZ, sS]
              refine take_op (i := 11) (d := 69) (OP := Op.move (Operand.tmp 5)) (T := 3) (v := ?vsy143) rfl rfl rfl rfl (by kernel_rfl) (by kernel_rfl) (by kernel_rfl) (fun _ _ _ h => h) (by rfl) ?hsy143 hHeld ?rsy143
              case hsy143 => (intro w' hSw; (try dsimp only at hSw); go_simp <;> with_reducible rfl)
              try simp only [Act.put, sI, sZ, sS]
              refine take_op (i := 12) (d := 70) (OP := Op.slice 22 (Operand.tmp 68) (some (Operand.tmp 69)) none none) (T := 22) (v := .slice A2 (out.length - n) (c3 - n)) rfl rfl rfl rfl (by kernel_rfl) (by kernel_rfl) (by kernel_rfl) (fun _ _ _ h => h) (by rfl) (fun w' _ => exec_sllo rfl rfl (r2 w')) hHeld ?_
              try simp only [Act.put, sI, sZ, sS]
              obtain ⟨v9, w9, run9, hO9, b9⟩ := hap1 W1 hHeld
              have hS9 : Below wz.heap.size wz w9 := hHeld.trans (b9.mono hHeld.size)
              have hSl : Below wz.heap.size wz (W1.alloc (.cells (encE ((g, r, lb, m, ix), y)).toArray 53)) := hHeld.alloc hHeld.size _
              refine turn2_op (i := 3) (di := 61) (OPi := Op.call { callee := Callee.builtin Builtin.append, args := #[Operand.const (Value.slice none 0 0), Operand.tmp 60], argTypes := #[22, 22] }) (Ti := 22) (j := 8) (dj := 66) (OPj := Op.buildSlice 22 1 #[(0, Operand.tmp 65)]) (Tj := 22) (v := v9) (wi := w9) (u := .slice (some ⟨W1.heap.size, 0, none⟩) 1 1) (wj := W1.alloc (.cells (encE ((g, r, lb, m, ix), y)).toArray 53)) rfl rfl rfl rfl rfl rfl rfl rfl (by kernel_rfl) (by rfl) (by rfl) (exec_append rfl rfl run9) (exec_bs53 rfl) hS9 hSl ?_ ?_
              · try simp only [Act.put, sI, sZ, sS]
                replace hHeld := hS9
                have hS8 : Below wz.heap.size wz (w9.alloc (.cells (encE ((g, r, lb, m, ix), y)).toArray 53)) := hHeld.alloc hHeld.size _
                refine turn_op (i := 8) (d := 66) (OP := Op.buildSlice 22 1 #[(0, Operand.tmp 65)]) (T := 22) (v := .slice (some ⟨w9.heap.size, 0, none⟩) 1 1) (w' := w9.alloc (.cells (encE ((g, r, lb, m, ix), y)).toArray 53)) rfl rfl rfl rfl (by kernel_rfl) (by rfl) (exec_bs53 rfl) hS8 ?_
                replace hHeld := hS8
                try simp only [Act.put, sI, sZ, sS]
                obtain ⟨v10, w10, run10, hO10, b10⟩ := hap2 (w9.alloc (.cells (encE ((g, r, lb, m, ix), y)).toArray 53)) _ w9.heap.size hHeld (hO9.alloc (.cells (encE ((g, r, lb, m, ix), y)).toArray 53)) (one_re w9 ((g, r, lb, m, ix), y))
                have hS10 := hHeld.trans b10
                refine turn_op (i := 9) (d := 67) (OP := Op.call { callee := Callee.builtin Builtin.append, args := #[Operand.tmp 61, Operand.tmp 66], argTypes := #[22, 22] }) (T := 22) (v := v10) (w' := w10) rfl rfl rfl rfl (by kernel_rfl) (by rfl) (exec_append rfl rfl run10) hS10 ?_
                replace hHeld := hS10
                try simp only [Act.put, sI, sZ, sS]
                obtain ⟨v11, w11, run11, hO11, b11⟩ := hap3 w10 _ hHeld hO10
                have hS11 := hHeld.trans b11
                refine turn_op (i := 13) (d := 71) (OP := Op.call { callee := Callee.builtin Builtin.append, args := #[Operand.tmp 67, Operand.tmp 70], argTypes := #[22, 22] }) (T := 22) (v := v11) (w' := w11) rfl rfl rfl rfl (by kernel_rfl) (by rfl) (exec_append rfl rfl run11) hS11 ?_
                replace hHeld := hS11
                try simp only [Act.put, sI, sZ, sS]
                refine take_op (i := 14) (d := 3) (OP := Op.assign (Operand.tmp 71)) (T := 22) (v := ?vsy144) rfl rfl rfl rfl (by kernel_rfl) (by kernel_rfl) (by kernel_rfl) (fun _ _ _ h => h) (by rfl) ?hsy144 hHeld ?rsy144
                case hsy144 => (intro w' hSw; (try dsimp only at hSw); go_simp <;> with_reducible rfl)
                try simp only [Act.put, sI, sZ, sS]
                refine wpAnyH_done (by kernel_rfl) ?_ _
                have H11 : Hid (Oe w11 w.heap.size v11 (inlQ [] (l.take (i + 1))) ∧ Below w.heap.size w w11) := hide ⟨by rw [HF.out]; exact hO11.lift (Nat.le_trans hsz HZ.out.size), (HW.out.trans (HZ.out.mono hsz)).trans (hS11.mono (Nat.le_trans hsz HZ.out.size))⟩
                clear hap1 hap2 hap3 r1 r2 f0 f1 f2 f3 f4 f5 hO9 b9 run9 hO10 run10 b10 hO11 run11 b11
                go_wp2
                go_roundw
                case rel => exact ⟨i + 1, by go_num, by omega, hide H11.out.1, hide H11.out.2⟩
                case measure => simp [intOf]; omega
              · try simp only [Act.put, sI, sZ, sS]
                clear run9 hO9 b9 hS9 v9 w9
                replace hHeld := hSl
                obtain ⟨v9, w9, run9, hO9, b9⟩ := hap1 _ hHeld
                have hS9 : Below wz.heap.size wz w9 := hHeld.trans (b9.mono hHeld.size)
                refine turn_op (i := 3) (d := 61) (OP := Op.call { callee := Callee.builtin Builtin.append, args := #[Operand.const (Value.slice none 0 0), Operand.tmp 60], argTypes := #[22, 22] }) (T := 22) (v := v9) (w' := w9) rfl rfl rfl rfl (by kernel_rfl) (by rfl) (exec_append rfl rfl run9) hS9 ?_
                replace hHeld := hS9
                try simp only [Act.put, sI, sZ, sS]
                obtain ⟨v10, w10, run10, hO10, b10⟩ := hap2 w9 _ W1.heap.size hHeld hO9 ((one_re W1 ((g, r, lb, m, ix), y)).below b9)
                have hS10 := hHeld.trans b10
                refine turn_op (i := 9) (d := 67) (OP := Op.call { callee := Callee.builtin Builtin.append, args := #[Operand.tmp 61, Operand.tmp 66], argTypes := #[22, 22] }) (T := 22) (v := v10) (w' := w10) rfl rfl rfl rfl (by kernel_rfl) (by rfl) (exec_append rfl rfl run10) hS10 ?_
                replace hHeld := hS10
                try simp only [Act.put, sI, sZ, sS]
                obtain ⟨v11, w11, run11, hO11, b11⟩ := hap3 w10 _ hHeld hO10
                have hS11 := hHeld.trans b11
                refine turn_op (i := 13) (d := 71) (OP := Op.call { callee := Callee.builtin Builtin.append, args := #[Operand.tmp 67, Operand.tmp 70], argTypes := #[22, 22] }) (T := 22) (v := v11) (w' := w11) rfl rfl rfl rfl (by kernel_rfl) (by rfl) (exec_append rfl rfl run11) hS11 ?_
                replace hHeld := hS11
                try simp only [Act.put, sI, sZ, sS]
                refine take_op (i := 14) (d := 3) (OP := Op.assign (Operand.tmp 71)) (T := 22) (v := ?vsy145) rfl rfl rfl rfl (by kernel_rfl) (by kernel_rfl) (by kernel_rfl) (fun _ _ _ h => h) (by rfl) ?hsy145 hHeld ?rsy145
                case hsy145 => (intro w' hSw; (try dsimp only at hSw); go_simp <;> with_reducible rfl)
                try simp only [Act.put, sI, sZ, sS]
                refine wpAnyH_done (by kernel_rfl) ?_ _
                have H11 : Hid (Oe w11 w.heap.size v11 (inlQ [] (l.take (i + 1))) ∧ Below w.heap.size w w11) := hide ⟨by rw [HF.out]; exact hO11.lift (Nat.le_trans hsz HZ.out.size), (HW.out.trans (HZ.out.mono hsz)).trans (hS11.mono (Nat.le_trans hsz HZ.out.size))⟩
                clear hap1 hap2 hap3 r1 r2 f0 f1 f2 f3 f4 f5 hO9 b9 run9 hO10 run10 b10 hO11 run11 b11
                go_wp2
                go_roundw
                case rel => exact ⟨i + 1, by go_num, by omega, hide H11.out.1, hide H11.out.2⟩
                case measure => simp [intOf]; omega
            · rw [if_neg hc0] at hge
              obtain ⟨cv, hcv⟩ : ∃ cv, cv = cmpT (g', r', lb', m', ix') (g, r, lb, m, ix) := ⟨_, rfl⟩
              have hr3 := ord_T.range (g', r', lb', m', ix') (g, r, lb, m, ix)
              rw [decide_eq_false (fun e => hc0 (by rw [e]; exact ord_T.refl _))] at heq
              rw [← hcv] at hge hcall hc0 hr3
              replace hge : ¬ cv < 0 := by omega
              clear hcv hq hqok hc0 hr3
              dsimp only [svT, sv] at heq hcall
              go_upto_region 6 with fail
              refine wp_region_held_drew (S := (fun w' => w'.cell? ⟨gb, goff + n * 6, none⟩ = some (.int .i64 g') ∧ w'.cell? ⟨gb, goff + n * 6 + 1, none⟩ = some (.int .i64 r') ∧ w'.cell? ⟨gb, goff + n * 6 + 2, none⟩ = some (.string lb') ∧ w'.cell? ⟨gb, goff + n * 6 + 3, none⟩ = some (.int .i64 m') ∧ w'.cell? ⟨gb, goff + n * 6 + 4, none⟩ = some (.int .i64 ix') ∧ w'.cell? ⟨gb, goff + n * 6 + 5, none⟩ = some (.string y') ∧ w'.cell? ⟨b, off + i * 6, none⟩ = some (.int .i64 g) ∧ w'.cell? ⟨b, off + i * 6 + 1, none⟩ = some (.int .i64 r) ∧ w'.cell? ⟨b, off + i * 6 + 2, none⟩ = some (.string lb) ∧ w'.cell? ⟨b, off + i * 6 + 3, none⟩ = some (.int .i64 m) ∧ w'.cell? ⟨b, off + i * 6 + 4, none⟩ = some (.int .i64 ix) ∧ w'.cell? ⟨b, off + i * 6 + 5, none⟩ = some (.string y))) (by kernel_rfl) (by exact HS.out _ (drew_below wr)) (fun hHeld => ?_)
              try dsimp only at hHeld
              refine take_op (i := 0) (d := 12) (OP := Op.move (Operand.tmp 5)) (T := 3) (v := ?v20) rfl rfl rfl rfl (by kernel_rfl) (by kernel_rfl) (by kernel_rfl) (fun _ _ _ h => h) (by rfl) ?h20 hHeld ?r20
              case h20 => (intro w' hSw; (try dsimp only at hSw); go_simp <;> with_reducible rfl)
              try simp only [Act.put, sI, sZ, sS]
              refine take_op (i := 1) (d := 13) (OP := Op.move (Operand.tmp 3)) (T := 22) (v := ?v21) rfl rfl rfl rfl (by kernel_rfl) (by kernel_rfl) (by kernel_rfl) (fun _ _ _ h => h) (by rfl) ?h21 hHeld ?r21
              case h21 => (intro w' hSw; (try dsimp only at hSw); go_simp <;> with_reducible rfl)
              try simp only [Act.put, sI, sZ, sS]
              refine take_op (i := 2) (d := 14) (OP := Op.call { callee := Callee.builtin Builtin.len, args := #[Operand.tmp 13], argTypes := #[22] }) (T := 3) (v := ?v22) rfl rfl rfl rfl (by kernel_rfl) (by kernel_rfl) (by kernel_rfl) (fun _ _ _ h => h) (by rfl) ?h22 hHeld ?r22
              case h22 => (intro w' hSw; (try dsimp only at hSw); go_simp <;> with_reducible rfl)
              try simp only [Act.put, sI, sZ, sS]
              refine take_op (i := 3) (d := 15) (OP := Op.binOp BinOp.lss 3 (Operand.tmp 12) (Operand.tmp 14) 3) (T := 4) (v := ?v23) rfl rfl rfl rfl (by kernel_rfl) (by kernel_rfl) (by kernel_rfl) (fun _ _ _ h => h) (by rfl) ?h23 hHeld ?r23
              case h23 => (intro w' hSw; (try dsimp only at hSw); go_simp <;> with_reducible rfl)
              try simp only [Act.put, sI, sZ, sS]
              refine take_op (i := 4) (d := 16) (OP := Op.move (Operand.tmp 15)) (T := 4) (v := ?v24) rfl rfl rfl rfl (by kernel_rfl) (by kernel_rfl) (by kernel_rfl) (fun _ _ _ h => h) (by rfl) ?h24 hHeld ?r24
              case h24 => (intro w' hSw; (try dsimp only at hSw); go_simp <;> with_reducible rfl)
              try simp only [Act.put, sI, sZ, sS]
              refine take_op (i := 5) (d := 17) (OP := Op.move (Operand.tmp 3)) (T := 22) (v := ?v25) rfl rfl rfl rfl (by kernel_rfl) (by kernel_rfl) (by kernel_rfl) (fun _ _ _ h => h) (by rfl) ?h25 hHeld ?r25
              case h25 => (intro w' hSw; (try dsimp only at hSw); go_simp <;> with_reducible rfl)
              try simp only [Act.put, sI, sZ, sS]
              refine take_op (i := 6) (d := 18) (OP := Op.move (Operand.tmp 5)) (T := 3) (v := ?v26) rfl rfl rfl rfl (by kernel_rfl) (by kernel_rfl) (by kernel_rfl) (fun _ _ _ h => h) (by rfl) ?h26 hHeld ?r26
              case h26 => (intro w' hSw; (try dsimp only at hSw); go_simp <;> with_reducible rfl)
              try simp only [Act.put, sI, sZ, sS]
              refine take_op (i := 7) (d := 19) (OP := Op.indexAddr 22 (Operand.tmp 17) (Operand.tmp 18)) (T := 0) (v := ?v27) rfl rfl rfl rfl (by kernel_rfl) (by kernel_rfl) (by kernel_rfl) (fun _ _ _ h => h) (by rfl) ?h27 hHeld ?r27
              case h27 => (intro w' hSw; (try dsimp only at hSw); go_simp <;> with_reducible rfl)
              try simp only [Act.put, sI, sZ, sS]
              refine take_op (i := 8) (d := 20) (OP := Op.fieldAddr 53 (Operand.tmp 19) 0) (T := 0) (v := ?v28) rfl rfl rfl rfl (by kernel_rfl) (by kernel_rfl) (by kernel_rfl) (fun _ _ _ h => h) (by rfl) ?h28 hHeld ?r28
              case h28 => (intro w' hSw; (try dsimp only at hSw); go_simp <;> with_reducible rfl)
              try simp only [Act.put, sI, sZ, sS]
              refine take_op (i := 9) (d := 21) (OP := Op.load 43 (Operand.tmp 20)) (T := 43) (v := ?v29) rfl rfl rfl rfl (by kernel_rfl) (by kernel_rfl) (by kernel_rfl) (fun _ _ _ h => h) (by rfl) ?h29 hHeld ?r29
              case h29 => (intro w' hSw; (try dsimp only at hSw); go_simp <;> with_reducible rfl)
              try simp only [Act.put, sI, sZ, sS]
              refine take_op (i := 10) (d := 22) (OP := Op.move (Operand.tmp 0)) (T := 22) (v := ?v30) rfl rfl rfl rfl (by kernel_rfl) (by kernel_rfl) (by kernel_rfl) (fun _ _ _ h => h) (by rfl) ?h30 hHeld ?r30
              case h30 => (intro w' hSw; (try dsimp only at hSw); go_simp <;> with_reducible rfl)
              try simp only [Act.put, sI, sZ, sS]
              refine take_op (i := 11) (d := 23) (OP := Op.move (Operand.tmp 4)) (T := 3) (v := ?v31) rfl rfl rfl rfl (by kernel_rfl) (by kernel_rfl) (by kernel_rfl) (fun _ _ _ h => h) (by rfl) ?h31 hHeld ?r31
              case h31 => (intro w' hSw; (try dsimp only at hSw); go_simp <;> with_reducible rfl)
              try simp only [Act.put, sI, sZ, sS]
              refine take_op (i := 12) (d := 24) (OP := Op.indexAddr 22 (Operand.tmp 22) (Operand.tmp 23)) (T := 0) (v := ?v32) rfl rfl rfl rfl (by kernel_rfl) (by kernel_rfl) (by kernel_rfl) (fun _ _ _ h => h) (by rfl) ?h32 hHeld ?r32
              case h32 => (intro w' hSw; (try dsimp only at hSw); go_simp <;> with_reducible rfl)
              try simp only [Act.put, sI, sZ, sS]
              refine take_op (i := 13) (d := 25) (OP := Op.fieldAddr 53 (Operand.tmp 24) 0) (T := 0) (v := ?v33) rfl rfl rfl rfl (by kernel_rfl) (by kernel_rfl) (by kernel_rfl) (fun _ _ _ h => h) (by rfl) ?h33 hHeld ?r33
              case h33 => (intro w' hSw; (try dsimp only at hSw); go_simp <;> with_reducible rfl)
              try simp only [Act.put, sI, sZ, sS]
              refine take_op (i := 14) (d := 26) (OP := Op.load 43 (Operand.tmp 25)) (T := 43) (v := ?v34) rfl rfl rfl rfl (by kernel_rfl) (by kernel_rfl) (by kernel_rfl) (fun _ _ _ h => h) (by rfl) ?h34 hHeld ?r34
              case h34 => (intro w' hSw; (try dsimp only at hSw); go_simp <;> with_reducible rfl)
              try simp only [Act.put, sI, sZ, sS]
              refine call_op (i := 15) (d := 27) (OP := Op.call { callee := Callee.value (Operand.func 114), args := #[Operand.tmp 21, Operand.tmp 26], argTypes := #[43, 43] }) (T := 3) (f := 114) (args := #[.agg #[.int .i64 g', .int .i64 r', .string lb', .int .i64 m', .int .i64 ix'], .agg #[.int .i64 g, .int .i64 r, .string lb, .int .i64 m, .int .i64 ix]]) rfl rfl rfl rfl (by kernel_rfl) (by rfl) (by go_simp) ?_
              refine (hcall _).mono ?_
              rintro e w5 ⟨rfl, b5⟩
              have bb5 := (drew_below wr).trans (b5.mono (drew_below wr).size)
              have q5 := HS.out w5 bb5
              have HW5 := hide (HI.out.trans (bb5.mono hs1))
              clear b5 bb5
              refine ⟨_, rfl, q5, ?_⟩
              replace hHeld := q5
              try simp only [Act.put, sI, sZ, sS]
              refine take_op (i := 16) (d := 28) (OP := Op.binOp BinOp.lss 3 (Operand.tmp 27) (Operand.const (Value.int IntKind.i64 0)) 3) (T := 4) (v := ?v35) rfl rfl rfl rfl (by kernel_rfl) (by kernel_rfl) (by kernel_rfl) (fun _ _ _ h => h) (by rfl) ?h35 hHeld ?r35
              case h35 => (intro w' hSw; (try dsimp only at hSw); go_simp <;> with_reducible rfl)
              try simp only [Act.put, sI, sZ, sS]
              refine take_op (i := 17) (d := 29) (OP := Op.move (Operand.tmp 28)) (T := 4) (v := ?v36) rfl rfl rfl rfl (by kernel_rfl) (by kernel_rfl) (by kernel_rfl) (fun _ _ _ h => h) (by rfl) ?h36 hHeld ?r36
              case h36 => (intro w' hSw; (try dsimp only at hSw); go_simp <;> with_reducible rfl)
              try simp only [Act.put, sI, sZ, sS]
              refine take_op (i := 18) (d := 30) (OP := Op.move (Operand.tmp 3)) (T := 22) (v := ?v37) rfl rfl rfl rfl (by kernel_rfl) (by kernel_rfl) (by kernel_rfl) (fun _ _ _ h => h) (by rfl) ?h37 hHeld ?r37
              case h37 => (intro w' hSw; (try dsimp only at hSw); go_simp <;> with_reducible rfl)
              try simp only [Act.put, sI, sZ, sS]
              refine take_op (i := 19) (d := 31) (OP := Op.move (Operand.tmp 5)) (T := 3) (v := ?v38) rfl rfl rfl rfl (by kernel_rfl) (by kernel_rfl) (by kernel_rfl) (fun _ _ _ h => h) (by rfl) ?h38 hHeld ?r38
              case h38 => (intro w' hSw; (try dsimp only at hSw); go_simp <;> with_reducible rfl)
              try simp only [Act.put, sI, sZ, sS]
              refine take_op (i := 20) (d := 32) (OP := Op.indexAddr 22 (Operand.tmp 30) (Operand.tmp 31)) (T := 0) (v := ?v39) rfl rfl rfl rfl (by kernel_rfl) (by kernel_rfl) (by kernel_rfl) (fun _ _ _ h => h) (by rfl) ?h39 hHeld ?r39
              case h39 => (intro w' hSw; (try dsimp only at hSw); go_simp <;> with_reducible rfl)
              try simp only [Act.put, sI, sZ, sS]
              refine take_op (i := 21) (d := 33) (OP := Op.fieldAddr 53 (Operand.tmp 32) 0) (T := 0) (v := ?v40) rfl rfl rfl rfl (by kernel_rfl) (by kernel_rfl) (by kernel_rfl) (fun _ _ _ h => h) (by rfl) ?h40 hHeld ?r40
              case h40 => (intro w' hSw; (try dsimp only at hSw); go_simp <;> with_reducible rfl)
              try simp only [Act.put, sI, sZ, sS]
              refine take_op (i := 22) (d := 34) (OP := Op.load 43 (Operand.tmp 33)) (T := 43) (v := ?v41) rfl rfl rfl rfl (by kernel_rfl) (by kernel_rfl) (by kernel_rfl) (fun _ _ _ h => h) (by rfl) ?h41 hHeld ?r41
              case h41 => (intro w' hSw; (try dsimp only at hSw); go_simp <;> with_reducible rfl)
              try simp only [Act.put, sI, sZ, sS]
              refine take_op (i := 23) (d := 35) (OP := Op.move (Operand.tmp 0)) (T := 22) (v := ?v42) rfl rfl rfl rfl (by kernel_rfl) (by kernel_rfl) (by kernel_rfl) (fun _ _ _ h => h) (by rfl) ?h42 hHeld ?r42
              case h42 => (intro w' hSw; (try dsimp only at hSw); go_simp <;> with_reducible rfl)
              try simp only [Act.put, sI, sZ, sS]
              refine take_op (i := 24) (d := 36) (OP := Op.move (Operand.tmp 4)) (T := 3) (v := ?v43) rfl rfl rfl rfl (by kernel_rfl) (by kernel_rfl) (by kernel_rfl) (fun _ _ _ h => h) (by rfl) ?h43 hHeld ?r43
              case h43 => (intro w' hSw; (try dsimp only at hSw); go_simp <;> with_reducible rfl)
              try simp only [Act.put, sI, sZ, sS]
              refine take_op (i := 25) (d := 37) (OP := Op.indexAddr 22 (Operand.tmp 35) (Operand.tmp 36)) (T := 0) (v := ?v44) rfl rfl rfl rfl (by kernel_rfl) (by kernel_rfl) (by kernel_rfl) (fun _ _ _ h => h) (by rfl) ?h44 hHeld ?r44
              case h44 => (intro w' hSw; (try dsimp only at hSw); go_simp <;> with_reducible rfl)
              try simp only [Act.put, sI, sZ, sS]
              refine take_op (i := 26) (d := 38) (OP := Op.fieldAddr 53 (Operand.tmp 37) 0) (T := 0) (v := ?v45) rfl rfl rfl rfl (by kernel_rfl) (by kernel_rfl) (by kernel_rfl) (fun _ _ _ h => h) (by rfl) ?h45 hHeld ?r45
              case h45 => (intro w' hSw; (try dsimp only at hSw); go_simp <;> with_reducible rfl)
              try simp only [Act.put, sI, sZ, sS]
              refine take_op (i := 27) (d := 39) (OP := Op.load 43 (Operand.tmp 38)) (T := 43) (v := ?v46) rfl rfl rfl rfl (by kernel_rfl) (by kernel_rfl) (by kernel_rfl) (fun _ _ _ h => h) (by rfl) ?h46 hHeld ?r46
              case h46 => (intro w' hSw; (try dsimp only at hSw); go_simp <;> with_reducible rfl)
              try simp only [Act.put, sI, sZ, sS]
              refine take_op (i := 28) (d := 40) (OP := Op.binOp BinOp.eql 43 (Operand.tmp 34) (Operand.tmp 39) 43) (T := 4) (v := ?v47) rfl rfl rfl rfl (by kernel_rfl) (by kernel_rfl) (by kernel_rfl) (fun _ _ _ h => h) (by rfl) ?h47 hHeld ?r47
              case h47 => (intro w' hSw; (try dsimp only at hSw); go_simp <;> with_reducible rfl)
              try simp only [Act.put, sI, sZ, sS]
              refine take_op (i := 29) (d := 41) (OP := Op.move (Operand.tmp 40)) (T := 4) (v := ?v48) rfl rfl rfl rfl (by kernel_rfl) (by kernel_rfl) (by kernel_rfl) (fun _ _ _ h => h) (by rfl) ?h48 hHeld ?r48
              case h48 => (intro w' hSw; (try dsimp only at hSw); go_simp <;> with_reducible rfl)
              try simp only [Act.put, sI, sZ, sS]
              refine pass_op (i := 30) (d := 42) rfl rfl (by kernel_rfl) (by kernel_rfl) (by kernel_rfl) (fun _ _ _ h => h) (by rfl) hHeld ?_
              try simp only [Act.put, sI, sZ, sS]
              refine pass_op (i := 31) (d := 43) rfl rfl (by kernel_rfl) (by kernel_rfl) (by kernel_rfl) (fun _ _ _ h => h) (by rfl) hHeld ?_
              try simp only [Act.put, sI, sZ, sS]
              refine pass_op (i := 32) (d := 44) rfl rfl (by kernel_rfl) (by kernel_rfl) (by kernel_rfl) (fun _ _ _ h => h) (by rfl) hHeld ?_
              try simp only [Act.put, sI, sZ, sS]
              refine pass_op (i := 33) (d := 45) rfl rfl (by kernel_rfl) (by kernel_rfl) (by kernel_rfl) (fun _ _ _ h => h) (by rfl) hHeld ?_
              try simp only [Act.put, sI, sZ, sS]
              refine pass_op (i := 34) (d := 46) rfl rfl (by kernel_rfl) (by kernel_rfl) (by kernel_rfl) (fun _ _ _ h => h) (by rfl) hHeld ?_
              try simp only [Act.put, sI, sZ, sS]
              refine pass_op (i := 35) (d := 47) rfl rfl (by kernel_rfl) (by kernel_rfl) (by kernel_rfl) (fun _ _ _ h => h) (by rfl) hHeld ?_
              try simp only [Act.put, sI, sZ, sS]
              refine pass_op (i := 36) (d := 48) rfl rfl (by kernel_rfl) (by kernel_rfl) (by kernel_rfl) (fun _ _ _ h => h) (by rfl) hHeld ?_
              try simp only [Act.put, sI, sZ, sS]
              refine pass_op (i := 37) (d := 49) rfl rfl (by kernel_rfl) (by kernel_rfl) (by kernel_rfl) (fun _ _ _ h => h) (by rfl) hHeld ?_
              try simp only [Act.put, sI, sZ, sS]
              refine pass_op (i := 38) (d := 50) rfl rfl (by kernel_rfl) (by kernel_rfl) (by kernel_rfl) (fun _ _ _ h => h) (by rfl) hHeld ?_
              try simp only [Act.put, sI, sZ, sS]
              refine pass_op (i := 39) (d := 51) rfl rfl (by kernel_rfl) (by kernel_rfl) (by kernel_rfl) (fun _ _ _ h => h) (by rfl) hHeld ?_
              try simp only [Act.put, sI, sZ, sS]
              refine pass_op (i := 40) (d := 52) rfl rfl (by kernel_rfl) (by kernel_rfl) (by kernel_rfl) (fun _ _ _ h => h) (by rfl) hHeld ?_
              try simp only [Act.put, sI, sZ, sS]
              refine take_op (i := 41) (d := 53) (OP := Op.pick (Operand.tmp 41) (Operand.tmp 52) (Operand.const (Value.bool false))) (T := 4) (v := ?v49) rfl rfl rfl rfl (by kernel_rfl) (by kernel_rfl) (by kernel_rfl) (fun _ _ _ h => h) (by rfl) ?h49 hHeld ?r49
              case h49 => (intro w' hSw; (try dsimp only at hSw); go_simp <;> with_reducible rfl)
              try simp only [Act.put, sI, sZ, sS]
              refine take_op (i := 42) (d := 54) (OP := Op.pick (Operand.tmp 29) (Operand.const (Value.bool true)) (Operand.tmp 53)) (T := 4) (v := ?v50) rfl rfl rfl rfl (by kernel_rfl) (by kernel_rfl) (by kernel_rfl) (fun _ _ _ h => h) (by rfl) ?h50 hHeld ?r50
              case h50 => (intro w' hSw; (try dsimp only at hSw); go_simp <;> with_reducible rfl)
              try simp only [Act.put, sI, sZ, sS]
              refine take_op (i := 43) (d := 55) (OP := Op.pick (Operand.tmp 16) (Operand.tmp 54) (Operand.const (Value.bool false))) (T := 4) (v := ?v51) rfl rfl rfl rfl (by kernel_rfl) (by kernel_rfl) (by kernel_rfl) (fun _ _ _ h => h) (by rfl) ?h51 hHeld ?r51
              case h51 => (intro w' hSw; (try dsimp only at hSw); go_simp <;> with_reducible rfl)
              try simp only [Act.put, sI, sZ, sS]
              refine wpAnyH_done (by kernel_rfl) ?_ _
              have HQ := hide HW5.out
              clear HS hcall heq hge HW5
              obtain ⟨wq, hwq⟩ : ∃ q, w5 = q := ⟨_, rfl⟩
              rw [hwq] at HQ ⊢
              clear hwq
              have hfin : inlQ [] (l.take (i + 1)) = out.take n ++ [((g, r, lb, m, ix), y)] ++ out.drop n := by
                have hnP : n = posQ ((g, r, lb, m, ix), y) out := by rw [← HP.out]; omega
                rw [HX.out.2, hnP]; rfl
              have HF := hide hfin
              have HZ := HQ
              obtain ⟨wz, hwz⟩ : ∃ q, wq = q := ⟨_, rfl⟩
              clear hfin HQ
              go_upto_region 8 with fail
              rw [hwz] at HZ ⊢
              clear hwz
              obtain ⟨hro, hspot, hzc⟩ := HO.out.reo
              have hOz := hro.below HZ.out
              have hc3 : out.length ≤ c3 := HR.out.2.2.2
              have hnl : n ≤ out.length := by omega
              obtain ⟨A1, r1, q1, m1⟩ := slice_hi hOz hnl hc3 hspot
              obtain ⟨A2, r2, q2, m2⟩ := slice_lo hOz hnl hc3 hspot
              obtain ⟨b', off', e', f0, f1, f2, f3, f4, f5⟩ := (HR.out.1.below HZ.out).cells HX.out.1
              injection e' with e'
              injection e' with e1 e2
              subst e1 e2
              simp only at f0 f1 f2 f3 f4 f5
              have hbz : b < wz.heap.size := World.block_lt_of_cell? _ _ f0
              have hl1 : (out.take n).length = n := by rw [List.length_take]; omega
              have hl2 : (out.drop n).length = out.length - n := by rw [List.length_drop]
              have hap1 : ∀ W, Below wz.heap.size wz W → ∃ v9 w9, (Builtin.append_ #[22, 22] 22 #[.slice none 0 0, .slice A1 n c3]).run Tryz.prog W = .ok v9 w9 ∧ Oe w9 wz.heap.size v9 (out.take n) ∧ Below W.heap.size W w9 := fun W hW => by
                obtain ⟨a', c', w', h1, h2, h3⟩ := app_elems (Oe.nil W W.heap.size) (fun e => hzc (m1 e)) (q1.below hW) (by simp; omega) (Nat.le_refl _)
                rw [hl1] at h1
                exact ⟨_, w', h1, h2.lift hW.size, h3⟩
              have hap2 : ∀ (W : World) (v : Value) (R : Nat), Below wz.heap.size wz W → Oe W wz.heap.size v (out.take n) → Re W (some ⟨R, 0, none⟩) [((g, r, lb, m, ix), y)] → ∃ v9 w9, (Builtin.append_ #[22, 22] 22 #[v, .slice (some ⟨R, 0, none⟩) 1 1]).run Tryz.prog W = .ok v9 w9 ∧ Oe w9 wz.heap.size v9 (out.take n ++ [((g, r, lb, m, ix), y)]) ∧ Below wz.heap.size W w9 := fun W v R hW ho hr => by
                obtain ⟨a', c', w', h1, h2, h3⟩ := app_elems (c := 1) ho (by simp) hr (by simp; omega) hW.size
                exact ⟨_, w', h1, h2, h3⟩
              have hap3 : ∀ (W : World) (v : Value), Below wz.heap.size wz W → Oe W wz.heap.size v (out.take n ++ [((g, r, lb, m, ix), y)]) → ∃ v9 w9, (Builtin.append_ #[22, 22] 22 #[v, .slice A2 (out.length - n) (c3 - n)]).run Tryz.prog W = .ok v9 w9 ∧ Oe w9 wz.heap.size v9 (out.take n ++ [((g, r, lb, m, ix), y)] ++ out.drop n) ∧ Below wz.heap.size W w9 := fun W v hW ho => by
                obtain ⟨a', c', w', h1, h2, h3⟩ := app_elems (c := c3 - n) ho (fun e => by rw [hzc (m2 e)]; simp) (q2.below hW) (by simp; omega) hW.size
                rw [hl2] at h1
                exact ⟨_, w', h1, h2, h3⟩
              clear hro hOz q1 q2 m1 m2 hl1 hl2 hspot hzc
              refine wp_region_held_drew (S := (fun w' => Below wz.heap.size wz w')) (by kernel_rfl) (by exact (Below.refl _ wz).drew) (fun hHeld => ?_)
              try dsimp only at hHeld
              generalize wz.drew = W1 at hHeld ⊢
              refine take_op (i := 0) (d := 58) (OP := Op.move (Operand.tmp 3)) (T := 22) (v := ?vsy146) rfl rfl rfl rfl (by kernel_rfl) (by kernel_rfl) (by kernel_rfl) (fun _ _ _ h => h) (by rfl) ?hsy146 hHeld ?rsy146
              case hsy146 => (intro w' hSw; (try dsimp only at hSw); go_simp <;> with_reducible rfl)
              try simp only [Act.put, sI, sZ, sS]
              refine take_op (i := 1) (d := 59) (OP := Op.move (Operand.tmp 5)) (T := 3) (v := ?vsy147) rfl rfl rfl rfl (by kernel_rfl) (by kernel_rfl) (by kernel_rfl) (fun _ _ _ h => h) (by rfl) ?hsy147 hHeld ?rsy147
              case hsy147 => (intro w' hSw; (try dsimp only at hSw); go_simp <;> with_reducible rfl)
              try simp only [Act.put, sI, sZ, sS]
              refine take_op (i := 2) (d := 60) (OP := Op.slice 22 (Operand.tmp 58) none (some (Operand.tmp 59)) none) (T := 22) (v := .slice A1 n c3) rfl rfl rfl rfl (by kernel_rfl) (by kernel_rfl) (by kernel_rfl) (fun _ _ _ h => h) (by rfl) (fun w' _ => exec_slhi rfl rfl (r1 w')) hHeld ?_
              try simp only [Act.put, sI, sZ, sS]
              refine take_op (i := 4) (d := 62) (OP := Op.move (Operand.tmp 0)) (T := 22) (v := ?vsy148) rfl rfl rfl rfl (by kernel_rfl) (by kernel_rfl) (by kernel_rfl) (fun _ _ _ h => h) (by rfl) ?hsy148 hHeld ?rsy148
              case hsy148 => (intro w' hSw; (try dsimp only at hSw); go_simp <;> with_reducible rfl)
              try simp only [Act.put, sI, sZ, sS]
              refine take_op (i := 5) (d := 63) (OP := Op.move (Operand.tmp 4)) (T := 3) (v := ?vsy149) rfl rfl rfl rfl (by kernel_rfl) (by kernel_rfl) (by kernel_rfl) (fun _ _ _ h => h) (by rfl) ?hsy149 hHeld ?rsy149
              case hsy149 => (intro w' hSw; (try dsimp only at hSw); go_simp <;> with_reducible rfl)
              try simp only [Act.put, sI, sZ, sS]
              refine take_op (i := 6) (d := 64) (OP := Op.indexAddr 22 (Operand.tmp 62) (Operand.tmp 63)) (T := 0) (v := .pointer (some ⟨b, off + i * 6, none⟩)) rfl rfl rfl rfl (by kernel_rfl) (by kernel_rfl) (by kernel_rfl) (fun _ _ _ h => h) (by rfl) (fun w' _ => exec_ixE rfl rfl z1) hHeld ?_
              try simp only [Act.put, sI, sZ, sS]
              refine take_op (i := 7) (d := 65) (OP := Op.load 53 (Operand.tmp 64)) (T := 53) (v := ev ((g, r, lb, m, ix), y)) rfl rfl rfl rfl (by kernel_rfl) (by kernel_rfl) (by kernel_rfl) (fun _ _ _ h => h) (by rfl) (fun w' hSw => exec_ld53 rfl ((hSw.cell hbz).trans f0) ((hSw.cell hbz).trans f1) ((hSw.cell hbz).trans f2) ((hSw.cell hbz).trans f3) ((hSw.cell hbz).trans f4) ((hSw.cell hbz).trans f5)) hHeld ?_
              try simp only [Act.put, sI, sZ, sS]
              refine take_op (i := 10) (d := 68) (OP := Op.move (Operand.tmp 3)) (T := 22) (v := ?vsy150) rfl rfl rfl rfl (by kernel_rfl) (by kernel_rfl) (by kernel_rfl) (fun _ _ _ h => h) (by rfl) ?hsy150 hHeld ?rsy150
              case hsy150 => (intro w' hSw; (try dsimp only at hSw); go_simp <;> with_reducible rfl)
              try simp only [Act.put, sI, sZ, sS]
              refine take_op (i := 11) (d := 69) (OP := Op.move (Operand.tmp 5)) (T := 3) (v := ?vsy151) rfl rfl rfl rfl (by kernel_rfl) (by kernel_rfl) (by kernel_rfl) (fun _ _ _ h => h) (by rfl) ?hsy151 hHeld ?rsy151
              case hsy151 => (intro w' hSw; (try dsimp only at hSw); go_simp <;> with_reducible rfl)
              try simp only [Act.put, sI, sZ, sS]
              refine take_op (i := 12) (d := 70) (OP := Op.slice 22 (Operand.tmp 68) (some (Operand.tmp 69)) none none) (T := 22) (v := .slice A2 (out.length - n) (c3 - n)) rfl rfl rfl rfl (by kernel_rfl) (by kernel_rfl) (by kernel_rfl) (fun _ _ _ h => h) (by rfl) (fun w' _ => exec_sllo rfl rfl (r2 w')) hHeld ?_
              try simp only [Act.put, sI, sZ, sS]
              obtain ⟨v9, w9, run9, hO9, b9⟩ := hap1 W1 hHeld
              have hS9 : Below wz.heap.size wz w9 := hHeld.trans (b9.mono hHeld.size)
              have hSl : Below wz.heap.size wz (W1.alloc (.cells (encE ((g, r, lb, m, ix), y)).toArray 53)) := hHeld.alloc hHeld.size _
              refine turn2_op (i := 3) (di := 61) (OPi := Op.call { callee := Callee.builtin Builtin.append, args := #[Operand.const (Value.slice none 0 0), Operand.tmp 60], argTypes := #[22, 22] }) (Ti := 22) (j := 8) (dj := 66) (OPj := Op.buildSlice 22 1 #[(0, Operand.tmp 65)]) (Tj := 22) (v := v9) (wi := w9) (u := .slice (some ⟨W1.heap.size, 0, none⟩) 1 1) (wj := W1.alloc (.cells (encE ((g, r, lb, m, ix), y)).toArray 53)) rfl rfl rfl rfl rfl rfl rfl rfl (by kernel_rfl) (by rfl) (by rfl) (exec_append rfl rfl run9) (exec_bs53 rfl) hS9 hSl ?_ ?_
              · try simp only [Act.put, sI, sZ, sS]
                replace hHeld := hS9
                have hS8 : Below wz.heap.size wz (w9.alloc (.cells (encE ((g, r, lb, m, ix), y)).toArray 53)) := hHeld.alloc hHeld.size _
                refine turn_op (i := 8) (d := 66) (OP := Op.buildSlice 22 1 #[(0, Operand.tmp 65)]) (T := 22) (v := .slice (some ⟨w9.heap.size, 0, none⟩) 1 1) (w' := w9.alloc (.cells (encE ((g, r, lb, m, ix), y)).toArray 53)) rfl rfl rfl rfl (by kernel_rfl) (by rfl) (exec_bs53 rfl) hS8 ?_
                replace hHeld := hS8
                try simp only [Act.put, sI, sZ, sS]
                obtain ⟨v10, w10, run10, hO10, b10⟩ := hap2 (w9.alloc (.cells (encE ((g, r, lb, m, ix), y)).toArray 53)) _ w9.heap.size hHeld (hO9.alloc (.cells (encE ((g, r, lb, m, ix), y)).toArray 53)) (one_re w9 ((g, r, lb, m, ix), y))
                have hS10 := hHeld.trans b10
                refine turn_op (i := 9) (d := 67) (OP := Op.call { callee := Callee.builtin Builtin.append, args := #[Operand.tmp 61, Operand.tmp 66], argTypes := #[22, 22] }) (T := 22) (v := v10) (w' := w10) rfl rfl rfl rfl (by kernel_rfl) (by rfl) (exec_append rfl rfl run10) hS10 ?_
                replace hHeld := hS10
                try simp only [Act.put, sI, sZ, sS]
                obtain ⟨v11, w11, run11, hO11, b11⟩ := hap3 w10 _ hHeld hO10
                have hS11 := hHeld.trans b11
                refine turn_op (i := 13) (d := 71) (OP := Op.call { callee := Callee.builtin Builtin.append, args := #[Operand.tmp 67, Operand.tmp 70], argTypes := #[22, 22] }) (T := 22) (v := v11) (w' := w11) rfl rfl rfl rfl (by kernel_rfl) (by rfl) (exec_append rfl rfl run11) hS11 ?_
                replace hHeld := hS11
                try simp only [Act.put, sI, sZ, sS]
                refine take_op (i := 14) (d := 3) (OP := Op.assign (Operand.tmp 71)) (T := 22) (v := ?vsy152) rfl rfl rfl rfl (by kernel_rfl) (by kernel_rfl) (by kernel_rfl) (fun _ _ _ h => h) (by rfl) ?hsy152 hHeld ?rsy152
                case hsy152 => (intro w' hSw; (try dsimp only at hSw); go_simp <;> with_reducible rfl)
                try simp only [Act.put, sI, sZ, sS]
                refine wpAnyH_done (by kernel_rfl) ?_ _
                have H11 : Hid (Oe w11 w.heap.size v11 (inlQ [] (l.take (i + 1))) ∧ Below w.heap.size w w11) := hide ⟨by rw [HF.out]; exact hO11.lift (Nat.le_trans hsz HZ.out.size), (HW.out.trans (HZ.out.mono hsz)).trans (hS11.mono (Nat.le_trans hsz HZ.out.size))⟩
                clear hap1 hap2 hap3 r1 r2 f0 f1 f2 f3 f4 f5 hO9 b9 run9 hO10 run10 b10 hO11 run11 b11
                go_wp2
                go_roundw
                case rel => exact ⟨i + 1, by go_num, by omega, hide H11.out.1, hide H11.out.2⟩
                case measure => simp [intOf]; omega
              · try simp only [Act.put, sI, sZ, sS]
                clear run9 hO9 b9 hS9 v9 w9
                replace hHeld := hSl
                obtain ⟨v9, w9, run9, hO9, b9⟩ := hap1 _ hHeld
                have hS9 : Below wz.heap.size wz w9 := hHeld.trans (b9.mono hHeld.size)
                refine turn_op (i := 3) (d := 61) (OP := Op.call { callee := Callee.builtin Builtin.append, args := #[Operand.const (Value.slice none 0 0), Operand.tmp 60], argTypes := #[22, 22] }) (T := 22) (v := v9) (w' := w9) rfl rfl rfl rfl (by kernel_rfl) (by rfl) (exec_append rfl rfl run9) hS9 ?_
                replace hHeld := hS9
                try simp only [Act.put, sI, sZ, sS]
                obtain ⟨v10, w10, run10, hO10, b10⟩ := hap2 w9 _ W1.heap.size hHeld hO9 ((one_re W1 ((g, r, lb, m, ix), y)).below b9)
                have hS10 := hHeld.trans b10
                refine turn_op (i := 9) (d := 67) (OP := Op.call { callee := Callee.builtin Builtin.append, args := #[Operand.tmp 61, Operand.tmp 66], argTypes := #[22, 22] }) (T := 22) (v := v10) (w' := w10) rfl rfl rfl rfl (by kernel_rfl) (by rfl) (exec_append rfl rfl run10) hS10 ?_
                replace hHeld := hS10
                try simp only [Act.put, sI, sZ, sS]
                obtain ⟨v11, w11, run11, hO11, b11⟩ := hap3 w10 _ hHeld hO10
                have hS11 := hHeld.trans b11
                refine turn_op (i := 13) (d := 71) (OP := Op.call { callee := Callee.builtin Builtin.append, args := #[Operand.tmp 67, Operand.tmp 70], argTypes := #[22, 22] }) (T := 22) (v := v11) (w' := w11) rfl rfl rfl rfl (by kernel_rfl) (by rfl) (exec_append rfl rfl run11) hS11 ?_
                replace hHeld := hS11
                try simp only [Act.put, sI, sZ, sS]
                refine take_op (i := 14) (d := 3) (OP := Op.assign (Operand.tmp 71)) (T := 22) (v := ?vsy153) rfl rfl rfl rfl (by kernel_rfl) (by kernel_rfl) (by kernel_rfl) (fun _ _ _ h => h) (by rfl) ?hsy153 hHeld ?rsy153
                case hsy153 => (intro w' hSw; (try dsimp only at hSw); go_simp <;> with_reducible rfl)
                try simp only [Act.put, sI, sZ, sS]
                refine wpAnyH_done (by kernel_rfl) ?_ _
                have H11 : Hid (Oe w11 w.heap.size v11 (inlQ [] (l.take (i + 1))) ∧ Below w.heap.size w w11) := hide ⟨by rw [HF.out]; exact hO11.lift (Nat.le_trans hsz HZ.out.size), (HW.out.trans (HZ.out.mono hsz)).trans (hS11.mono (Nat.le_trans hsz HZ.out.size))⟩
                clear hap1 hap2 hap3 r1 r2 f0 f1 f2 f3 f4 f5 hO9 b9 run9 hO10 run10 b10 hO11 run11 b11
                go_wp2
                go_roundw
                case rel => exact ⟨i + 1, by go_num, by omega, hide H11.out.1, hide H11.out.2⟩
                case measure => simp [intOf]; omega
        · have z2 : ¬ (n : Int) < (out.length : Int) := by omega
          go_upto_region 6 with fail
          go_quiet (fail)
          have HQ := hide (HI.out.trans ((below_drew wr nq).mono HI.out.size))
          generalize wr.drewN nq = wq at HQ ⊢
          have hfin : inlQ [] (l.take (i + 1)) = out.take n ++ [((g, r, lb, m, ix), y)] ++ out.drop n := by
            have hnP : n = posQ ((g, r, lb, m, ix), y) out := by rw [← HP.out]; omega
            rw [HX.out.2, hnP]; rfl
          have HF := hide hfin
          have HZ := HQ
          obtain ⟨wz, hwz⟩ : ∃ q, wq = q := ⟨_, rfl⟩
          clear hfin HQ
          go_upto_region 8 with fail
          rw [hwz] at HZ ⊢
          clear hwz
          obtain ⟨hro, hspot, hzc⟩ := HO.out.reo
          have hOz := hro.below HZ.out
          have hc3 : out.length ≤ c3 := HR.out.2.2.2
          have hnl : n ≤ out.length := by omega
          obtain ⟨A1, r1, q1, m1⟩ := slice_hi hOz hnl hc3 hspot
          obtain ⟨A2, r2, q2, m2⟩ := slice_lo hOz hnl hc3 hspot
          obtain ⟨b', off', e', f0, f1, f2, f3, f4, f5⟩ := (HR.out.1.below HZ.out).cells HX.out.1
          injection e' with e'
          injection e' with e1 e2
          subst e1 e2
          simp only at f0 f1 f2 f3 f4 f5
          have hbz : b < wz.heap.size := World.block_lt_of_cell? _ _ f0
          have hl1 : (out.take n).length = n := by rw [List.length_take]; omega
          have hl2 : (out.drop n).length = out.length - n := by rw [List.length_drop]
          have hap1 : ∀ W, Below wz.heap.size wz W → ∃ v9 w9, (Builtin.append_ #[22, 22] 22 #[.slice none 0 0, .slice A1 n c3]).run Tryz.prog W = .ok v9 w9 ∧ Oe w9 wz.heap.size v9 (out.take n) ∧ Below W.heap.size W w9 := fun W hW => by
            obtain ⟨a', c', w', h1, h2, h3⟩ := app_elems (Oe.nil W W.heap.size) (fun e => hzc (m1 e)) (q1.below hW) (by simp; omega) (Nat.le_refl _)
            rw [hl1] at h1
            exact ⟨_, w', h1, h2.lift hW.size, h3⟩
          have hap2 : ∀ (W : World) (v : Value) (R : Nat), Below wz.heap.size wz W → Oe W wz.heap.size v (out.take n) → Re W (some ⟨R, 0, none⟩) [((g, r, lb, m, ix), y)] → ∃ v9 w9, (Builtin.append_ #[22, 22] 22 #[v, .slice (some ⟨R, 0, none⟩) 1 1]).run Tryz.prog W = .ok v9 w9 ∧ Oe w9 wz.heap.size v9 (out.take n ++ [((g, r, lb, m, ix), y)]) ∧ Below wz.heap.size W w9 := fun W v R hW ho hr => by
            obtain ⟨a', c', w', h1, h2, h3⟩ := app_elems (c := 1) ho (by simp) hr (by simp; omega) hW.size
            exact ⟨_, w', h1, h2, h3⟩
          have hap3 : ∀ (W : World) (v : Value), Below wz.heap.size wz W → Oe W wz.heap.size v (out.take n ++ [((g, r, lb, m, ix), y)]) → ∃ v9 w9, (Builtin.append_ #[22, 22] 22 #[v, .slice A2 (out.length - n) (c3 - n)]).run Tryz.prog W = .ok v9 w9 ∧ Oe w9 wz.heap.size v9 (out.take n ++ [((g, r, lb, m, ix), y)] ++ out.drop n) ∧ Below wz.heap.size W w9 := fun W v hW ho => by
            obtain ⟨a', c', w', h1, h2, h3⟩ := app_elems (c := c3 - n) ho (fun e => by rw [hzc (m2 e)]; simp) (q2.below hW) (by simp; omega) hW.size
            rw [hl2] at h1
            exact ⟨_, w', h1, h2, h3⟩
          clear hro hOz q1 q2 m1 m2 hl1 hl2 hspot hzc
          refine wp_region_held_drew (S := (fun w' => Below wz.heap.size wz w')) (by kernel_rfl) (by exact (Below.refl _ wz).drew) (fun hHeld => ?_)
          try dsimp only at hHeld
          generalize wz.drew = W1 at hHeld ⊢
          refine take_op (i := 0) (d := 58) (OP := Op.move (Operand.tmp 3)) (T := 22) (v := ?vsy154) rfl rfl rfl rfl (by kernel_rfl) (by kernel_rfl) (by kernel_rfl) (fun _ _ _ h => h) (by rfl) ?hsy154 hHeld ?rsy154
          case hsy154 => (intro w' hSw; (try dsimp only at hSw); go_simp <;> with_reducible rfl)
          try simp only [Act.put, sI, sZ, sS]
          refine take_op (i := 1) (d := 59) (OP := Op.move (Operand.tmp 5)) (T := 3) (v := ?vsy155) rfl rfl rfl rfl (by kernel_rfl) (by kernel_rfl) (by kernel_rfl) (fun _ _ _ h => h) (by rfl) ?hsy155 hHeld ?rsy155
          case hsy155 => (intro w' hSw; (try dsimp only at hSw); go_simp <;> with_reducible rfl)
          try simp only [Act.put, sI, sZ, sS]
          refine take_op (i := 2) (d := 60) (OP := Op.slice 22 (Operand.tmp 58) none (some (Operand.tmp 59)) none) (T := 22) (v := .slice A1 n c3) rfl rfl rfl rfl (by kernel_rfl) (by kernel_rfl) (by kernel_rfl) (fun _ _ _ h => h) (by rfl) (fun w' _ => exec_slhi rfl rfl (r1 w')) hHeld ?_
          try simp only [Act.put, sI, sZ, sS]
          refine take_op (i := 4) (d := 62) (OP := Op.move (Operand.tmp 0)) (T := 22) (v := ?vsy156) rfl rfl rfl rfl (by kernel_rfl) (by kernel_rfl) (by kernel_rfl) (fun _ _ _ h => h) (by rfl) ?hsy156 hHeld ?rsy156
          case hsy156 => (intro w' hSw; (try dsimp only at hSw); go_simp <;> with_reducible rfl)
          try simp only [Act.put, sI, sZ, sS]
          refine take_op (i := 5) (d := 63) (OP := Op.move (Operand.tmp 4)) (T := 3) (v := ?vsy157) rfl rfl rfl rfl (by kernel_rfl) (by kernel_rfl) (by kernel_rfl) (fun _ _ _ h => h) (by rfl) ?hsy157 hHeld ?rsy157
          case hsy157 => (intro w' hSw; (try dsimp only at hSw); go_simp <;> with_reducible rfl)
          try simp only [Act.put, sI, sZ, sS]
          refine take_op (i := 6) (d := 64) (OP := Op.indexAddr 22 (Operand.tmp 62) (Operand.tmp 63)) (T := 0) (v := .pointer (some ⟨b, off + i * 6, none⟩)) rfl rfl rfl rfl (by kernel_rfl) (by kernel_rfl) (by kernel_rfl) (fun _ _ _ h => h) (by rfl) (fun w' _ => exec_ixE rfl rfl z1) hHeld ?_
          try simp only [Act.put, sI, sZ, sS]
          refine take_op (i := 7) (d := 65) (OP := Op.load 53 (Operand.tmp 64)) (T := 53) (v := ev ((g, r, lb, m, ix), y)) rfl rfl rfl rfl (by kernel_rfl) (by kernel_rfl) (by kernel_rfl) (fun _ _ _ h => h) (by rfl) (fun w' hSw => exec_ld53 rfl ((hSw.cell hbz).trans f0) ((hSw.cell hbz).trans f1) ((hSw.cell hbz).trans f2) ((hSw.cell hbz).trans f3) ((hSw.cell hbz).trans f4) ((hSw.cell hbz).trans f5)) hHeld ?_
          try simp only [Act.put, sI, sZ, sS]
          refine take_op (i := 10) (d := 68) (OP := Op.move (Operand.tmp 3)) (T := 22) (v := ?vsy158) rfl rfl rfl rfl (by kernel_rfl) (by kernel_rfl) (by kernel_rfl) (fun _ _ _ h => h) (by rfl) ?hsy158 hHeld ?rsy158
          case hsy158 => (intro w' hSw; (try dsimp only at hSw); go_simp <;> with_reducible rfl)
          try simp only [Act.put, sI, sZ, sS]
          refine take_op (i := 11) (d := 69) (OP := Op.move (Operand.tmp 5)) (T := 3) (v := ?vsy159) rfl rfl rfl rfl (by kernel_rfl) (by kernel_rfl) (by kernel_rfl) (fun _ _ _ h => h) (by rfl) ?hsy159 hHeld ?rsy159
          case hsy159 => (intro w' hSw; (try dsimp only at hSw); go_simp <;> with_reducible rfl)
          try simp only [Act.put, sI, sZ, sS]
          refine take_op (i := 12) (d := 70) (OP := Op.slice 22 (Operand.tmp 68) (some (Operand.tmp 69)) none none) (T := 22) (v := .slice A2 (out.length - n) (c3 - n)) rfl rfl rfl rfl (by kernel_rfl) (by kernel_rfl) (by kernel_rfl) (fun _ _ _ h => h) (by rfl) (fun w' _ => exec_sllo rfl rfl (r2 w')) hHeld ?_
          try simp only [Act.put, sI, sZ, sS]
          obtain ⟨v9, w9, run9, hO9, b9⟩ := hap1 W1 hHeld
          have hS9 : Below wz.heap.size wz w9 := hHeld.trans (b9.mono hHeld.size)
          have hSl : Below wz.heap.size wz (W1.alloc (.cells (encE ((g, r, lb, m, ix), y)).toArray 53)) := hHeld.alloc hHeld.size _
          refine turn2_op (i := 3) (di := 61) (OPi := Op.call { callee := Callee.builtin Builtin.append, args := #[Operand.const (Value.slice none 0 0), Operand.tmp 60], argTypes := #[22, 22] }) (Ti := 22) (j := 8) (dj := 66) (OPj := Op.buildSlice 22 1 #[(0, Operand.tmp 65)]) (Tj := 22) (v := v9) (wi := w9) (u := .slice (some ⟨W1.heap.size, 0, none⟩) 1 1) (wj := W1.alloc (.cells (encE ((g, r, lb, m, ix), y)).toArray 53)) rfl rfl rfl rfl rfl rfl rfl rfl (by kernel_rfl) (by rfl) (by rfl) (exec_append rfl rfl run9) (exec_bs53 rfl) hS9 hSl ?_ ?_
          · try simp only [Act.put, sI, sZ, sS]
            replace hHeld := hS9
            have hS8 : Below wz.heap.size wz (w9.alloc (.cells (encE ((g, r, lb, m, ix), y)).toArray 53)) := hHeld.alloc hHeld.size _
            refine turn_op (i := 8) (d := 66) (OP := Op.buildSlice 22 1 #[(0, Operand.tmp 65)]) (T := 22) (v := .slice (some ⟨w9.heap.size, 0, none⟩) 1 1) (w' := w9.alloc (.cells (encE ((g, r, lb, m, ix), y)).toArray 53)) rfl rfl rfl rfl (by kernel_rfl) (by rfl) (exec_bs53 rfl) hS8 ?_
            replace hHeld := hS8
            try simp only [Act.put, sI, sZ, sS]
            obtain ⟨v10, w10, run10, hO10, b10⟩ := hap2 (w9.alloc (.cells (encE ((g, r, lb, m, ix), y)).toArray 53)) _ w9.heap.size hHeld (hO9.alloc (.cells (encE ((g, r, lb, m, ix), y)).toArray 53)) (one_re w9 ((g, r, lb, m, ix), y))
            have hS10 := hHeld.trans b10
            refine turn_op (i := 9) (d := 67) (OP := Op.call { callee := Callee.builtin Builtin.append, args := #[Operand.tmp 61, Operand.tmp 66], argTypes := #[22, 22] }) (T := 22) (v := v10) (w' := w10) rfl rfl rfl rfl (by kernel_rfl) (by rfl) (exec_append rfl rfl run10) hS10 ?_
            replace hHeld := hS10
            try simp only [Act.put, sI, sZ, sS]
            obtain ⟨v11, w11, run11, hO11, b11⟩ := hap3 w10 _ hHeld hO10
            have hS11 := hHeld.trans b11
            refine turn_op (i := 13) (d := 71) (OP := Op.call { callee := Callee.builtin Builtin.append, args := #[Operand.tmp 67, Operand.tmp 70], argTypes := #[22, 22] }) (T := 22) (v := v11) (w' := w11) rfl rfl rfl rfl (by kernel_rfl) (by rfl) (exec_append rfl rfl run11) hS11 ?_
            replace hHeld := hS11
            try simp only [Act.put, sI, sZ, sS]
            refine take_op (i := 14) (d := 3) (OP := Op.assign (Operand.tmp 71)) (T := 22) (v := ?vsy160) rfl rfl rfl rfl (by kernel_rfl) (by kernel_rfl) (by kernel_rfl) (fun _ _ _ h => h) (by rfl) ?hsy160 hHeld ?rsy160
            case hsy160 => (intro w' hSw; (try dsimp only at hSw); go_simp <;> with_reducible rfl)
            try simp only [Act.put, sI, sZ, sS]
            refine wpAnyH_done (by kernel_rfl) ?_ _
            have H11 : Hid (Oe w11 w.heap.size v11 (inlQ [] (l.take (i + 1))) ∧ Below w.heap.size w w11) := hide ⟨by rw [HF.out]; exact hO11.lift (Nat.le_trans hsz HZ.out.size), (HW.out.trans (HZ.out.mono hsz)).trans (hS11.mono (Nat.le_trans hsz HZ.out.size))⟩
            clear hap1 hap2 hap3 r1 r2 f0 f1 f2 f3 f4 f5 hO9 b9 run9 hO10 run10 b10 hO11 run11 b11
            go_wp2
            go_roundw
            case rel => exact ⟨i + 1, by go_num, by omega, hide H11.out.1, hide H11.out.2⟩
            case measure => simp [intOf]; omega
          · try simp only [Act.put, sI, sZ, sS]
            clear run9 hO9 b9 hS9 v9 w9
            replace hHeld := hSl
            obtain ⟨v9, w9, run9, hO9, b9⟩ := hap1 _ hHeld
            have hS9 : Below wz.heap.size wz w9 := hHeld.trans (b9.mono hHeld.size)
            refine turn_op (i := 3) (d := 61) (OP := Op.call { callee := Callee.builtin Builtin.append, args := #[Operand.const (Value.slice none 0 0), Operand.tmp 60], argTypes := #[22, 22] }) (T := 22) (v := v9) (w' := w9) rfl rfl rfl rfl (by kernel_rfl) (by rfl) (exec_append rfl rfl run9) hS9 ?_
            replace hHeld := hS9
            try simp only [Act.put, sI, sZ, sS]
            obtain ⟨v10, w10, run10, hO10, b10⟩ := hap2 w9 _ W1.heap.size hHeld hO9 ((one_re W1 ((g, r, lb, m, ix), y)).below b9)
            have hS10 := hHeld.trans b10
            refine turn_op (i := 9) (d := 67) (OP := Op.call { callee := Callee.builtin Builtin.append, args := #[Operand.tmp 61, Operand.tmp 66], argTypes := #[22, 22] }) (T := 22) (v := v10) (w' := w10) rfl rfl rfl rfl (by kernel_rfl) (by rfl) (exec_append rfl rfl run10) hS10 ?_
            replace hHeld := hS10
            try simp only [Act.put, sI, sZ, sS]
            obtain ⟨v11, w11, run11, hO11, b11⟩ := hap3 w10 _ hHeld hO10
            have hS11 := hHeld.trans b11
            refine turn_op (i := 13) (d := 71) (OP := Op.call { callee := Callee.builtin Builtin.append, args := #[Operand.tmp 67, Operand.tmp 70], argTypes := #[22, 22] }) (T := 22) (v := v11) (w' := w11) rfl rfl rfl rfl (by kernel_rfl) (by rfl) (exec_append rfl rfl run11) hS11 ?_
            replace hHeld := hS11
            try simp only [Act.put, sI, sZ, sS]
            refine take_op (i := 14) (d := 3) (OP := Op.assign (Operand.tmp 71)) (T := 22) (v := ?vsy161) rfl rfl rfl rfl (by kernel_rfl) (by kernel_rfl) (by kernel_rfl) (fun _ _ _ h => h) (by rfl) ?hsy161 hHeld ?rsy161
            case hsy161 => (intro w' hSw; (try dsimp only at hSw); go_simp <;> with_reducible rfl)
            try simp only [Act.put, sI, sZ, sS]
            refine wpAnyH_done (by kernel_rfl) ?_ _
            have H11 : Hid (Oe w11 w.heap.size v11 (inlQ [] (l.take (i + 1))) ∧ Below w.heap.size w w11) := hide ⟨by rw [HF.out]; exact hO11.lift (Nat.le_trans hsz HZ.out.size), (HW.out.trans (HZ.out.mono hsz)).trans (hS11.mono (Nat.le_trans hsz HZ.out.size))⟩
            clear hap1 hap2 hap3 r1 r2 f0 f1 f2 f3 f4 f5 hO9 b9 run9 hO10 run10 b10 hO11 run11 b11
            go_wp2
            go_roundw
            case rel => exact ⟨i + 1, by go_num, by omega, hide H11.out.1, hide H11.out.2⟩
            case measure => simp [intOf]; omega
    · have z1 : ¬ (i : Int) < (N : Int) := by omega
      have hE : l.take i = l := List.take_of_length_le (by rw [← H.out.1]; omega)
      have HE := hide hE
      clear hE
      go_wp2
      go_ret
      exact ⟨_, rfl, by have h4 := HO.out; rw [HE.out] at h4; exact h4, HW.out⟩
end Go.Proofs.YtkkpdgfllnbigaaGreat.Tg
