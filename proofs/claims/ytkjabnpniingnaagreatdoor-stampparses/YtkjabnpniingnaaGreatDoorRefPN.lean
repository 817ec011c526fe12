/-
  REFPARSEN: the document's reading of a text.
-/
import Derived.Test.YtkjabnpniingnaaGreatDoorRefPB
import Derived.Deep.DeepCutAuto
import Derived.Deep.CutBlock
namespace Go.Proofs.YtkjabnpniingnaaGreatDoor
open Go.RowKit Go.Shelf
set_option linter.unusedSimpArgs false

set_option maxHeartbeats 4000000 in
set_option maxRecDepth 100000 in
theorem refParseName_any (s : ByteArray) (w : World) (hs : s.size ≤ 100000) (hE : EnvE w) : Calls Tryz.prog 45 #[.string s] w fun e w' => e = .returned (.tuple #[nv (pnR s) (pnL s) (pnN s), .int .i64 (if pnV s then 0 else 4)]) ∧ Below w.heap.size w w' := by
  have hb := below_new w (.cells #[.int .i64 0, .string ⟨#[]⟩, .int .i64 0] 25)
  have hbk := heap_alloc_new w (.cells #[.int .i64 0, .string ⟨#[]⟩, .int .i64 0] 25)
  have hs1 : w.heap.size + 1 = (w.alloc (.cells #[.int .i64 0, .string ⟨#[]⟩, .int .i64 0] 25)).heap.size := by simp
  have h93 := cut9_any s (w.alloc (.cells #[.int .i64 0, .string ⟨#[]⟩, .int .i64 0] 25)) (by omega)
  have hk : ∀ W, Below (w.heap.size + 1) (w.alloc (.cells #[.int .i64 0, .string ⟨#[]⟩, .int .i64 0] 25)) W → W.heap[w.heap.size]? = some (.cells #[.int .i64 0, .string ⟨#[]⟩, .int .i64 0] 25) := fun W h => (h.block _ (by omega)).trans hbk
  have hpl := pcs_sizes s
  obtain ⟨PV, hPV⟩ : ∃ PV, PV = pnV s := ⟨_, rfl⟩
  obtain ⟨E, hEe⟩ : ∃ E : Int, E = (if pnV s then 0 else 4) := ⟨_, rfl⟩
  obtain ⟨P0, hP0⟩ : ∃ P0, P0 = pnR s := ⟨_, rfl⟩
  obtain ⟨P1, hP1⟩ : ∃ P1, P1 = pnL s := ⟨_, rfl⟩
  obtain ⟨P2, hP2⟩ : ∃ P2, P2 = pnN s := ⟨_, rfl⟩
  rw [← hEe, ← hP0, ← hP1, ← hP2]
  have hF : PV = false → P0 = 0 ∧ P1 = ⟨#[]⟩ ∧ P2 = 0 ∧ E = 4 := fun h => by rw [h] at hPV; rw [hEe, hP0, hP1, hP2]; unfold pnR pnL pnN; rw [← hPV]; exact ⟨rfl, rfl, rfl, rfl⟩
  by_cases hn : (pcs s).length = 3
  · obtain ⟨a, b, c, hp⟩ : ∃ a b c, pcs s = [a, b, c] := len3 hn
    have hsz : a.size ≤ s.size ∧ b.size ≤ s.size ∧ c.size ≤ s.size := by rw [hp] at hpl; exact ⟨hpl a (by simp), hpl b (by simp), hpl c (by simp)⟩
    obtain ⟨hVe, hVv⟩ := dn_eq hp
    have h94a : ∀ W, Below w.heap.size w W → Calls Tryz.prog 94 #[.string a] W fun e w' => e = .returned (.int .i64 (guessI a)) ∧ Below W.heap.size W w' := fun W h => read_any a W (by omega) (hE.below h)
    have h94c : ∀ W, Below w.heap.size w W → Calls Tryz.prog 94 #[.string c] W fun e w' => e = .returned (.int .i64 (guessI c)) ∧ Below W.heap.size W w' := fun W h => read_any c W (by omega) (hE.below h)
    obtain ⟨GA, hGA⟩ : ∃ GA, guessI a = GA := ⟨_, rfl⟩
    rw [hGA] at h94a hVe hVv
    obtain ⟨GC, hGC⟩ : ∃ GC, guessI c = GC := ⟨_, rfl⟩
    rw [hGC] at h94c hVe hVv
    have hT : PV = true → P0 = GA ∧ P1 = b ∧ P2 = GC ∧ E = 0 := fun h => by
      rw [h] at hPV
      obtain ⟨e0, e1, e2⟩ := hVv hPV.symm
      rw [hEe, ← hPV, hP0, hP1, hP2, ← e0, ← e1, ← e2]; exact ⟨rfl, rfl, rfl, rfl⟩
    rw [← hPV] at hVe
    have hv : ∀ W, Calls Tryz.prog 20 #[.agg #[.int .i64 GA, .string b, .int .i64 GC]] W fun e w' => e = .returned (.bool (nameV GA b GC)) ∧ Below W.heap.size W w' := fun W => refName_any GA b GC W (by omega)
    have ht : nameV GA b GC = true → ∀ W, Below w.heap.size w W → Calls Tryz.prog 28 #[.agg #[.int .i64 GA, .string b, .int .i64 GC]] W fun e w' => e = .returned (.string (nmT GA b GC)) ∧ Below W.heap.size W w' := fun hv W h => by
      have := N_bounds hv
      exact refTextName_any GA b GC W (by omega) (by omega) (by omega) (by omega) (by omega) (hE.below h).env
    generalize nmT GA b GC = TT at ht hVe
    generalize nameV GA b GC = VV at hv ht hVe
    rw [hp] at h93
    clear hVv hpl hn hp hE hPV hEe hP0 hP1 hP2 hGA hGC
    have HV := hide (And.intro hVe (And.intro hT hF))
    clear hVe hT hF
    go_enter Tryz.func45, Tryz.ntmps45
    go_upto_region 4 with (go_at_call 93; refine h93.mono ?_; rintro e w1 ⟨v, rfl, hO, b1⟩; obtain ⟨ab, cc, rfl, hb0, hb1, hq⟩ := hO.at (k := 3) rfl (by omega); clear hO)
    have hD : Below w.heap.size w w1.drew := (hb.trans (b1.mono hb.size)).drew
    have hQ : Below (w.heap.size + 1) (w.alloc (.cells #[.int .i64 0, .string ⟨#[]⟩, .int .i64 0] 25)) w1.drew := (b1.mono (by omega)).drew
    have hz : w.heap.size + 1 ≤ w1.drew.heap.size := by have := b1.size; show _ ≤ w1.heap.size; omega
    have haz : ab < w1.drew.heap.size := hb1
    have hS1 : w1.drew.cell? ⟨ab, 0, none⟩ = some (.string a) ∧ w1.drew.cell? ⟨ab, 1, none⟩ = some (.string b) ∧ w1.drew.cell? ⟨ab, 2, none⟩ = some (.string c) := ⟨hq 0 a rfl, hq 1 b rfl, hq 2 c rfl⟩
    clear hq
    go_cut [5] (fun v5 wc => ∃ Pn, v5 = .pointer (some ⟨Pn, 0, none⟩) ∧ Hid (wc.heap[Pn]? = some (.cells #[.int .i64 GA, .string b, .int .i64 GC] 25 (0, 0)) ∧ Below w.heap.size w wc ∧ Below (w.heap.size + 1) (w.alloc (.cells #[.int .i64 0, .string ⟨#[]⟩, .int .i64 0] 25)) wc ∧ Pn < wc.heap.size))
    case first =>
      as_aux_lemma =>
        refine wp_region_held_drew (S := (fun w' => w'.cell? ⟨ab, 0, none⟩ = some (.string a) ∧ w'.cell? ⟨ab, 1, none⟩ = some (.string b) ∧ w'.cell? ⟨ab, 2, none⟩ = some (.string c))) (by kernel_rfl) (by exact hS1) (fun hHeld => ?_)
        try dsimp only at hHeld
        generalize w1.drew = W1 at hHeld hD hQ hz haz ⊢
        refine take_op (i := 0) (d := 12) (OP := Op.move (Operand.tmp 4)) (T := 120) (v := ?vy9x) rfl rfl rfl rfl (by kernel_rfl) (by kernel_rfl) (by kernel_rfl) (fun _ _ _ h => h) (by rfl) ?hy9x hHeld ?ry9x
        case hy9x => (intro w' hSw; (try dsimp only at hSw); go_simp <;> with_reducible rfl)
        try simp only [Act.put, List.setIfInBounds_toArray, List.set_cons_zero, List.set_cons_succ]
        refine take_op (i := 1) (d := 13) (OP := Op.indexAddr 120 (Operand.tmp 12) (Operand.const (Value.int IntKind.i64 0))) (T := 0) (v := ?vy10x) rfl rfl rfl rfl (by kernel_rfl) (by kernel_rfl) (by kernel_rfl) (fun _ _ _ h => h) (by rfl) ?hy10x hHeld ?ry10x
        case hy10x => (intro w' hSw; (try dsimp only at hSw); go_simp <;> with_reducible rfl)
        try simp only [Act.put, List.setIfInBounds_toArray, List.set_cons_zero, List.set_cons_succ]
        refine take_op (i := 2) (d := 14) (OP := Op.load 9 (Operand.tmp 13)) (T := 9) (v := ?vy11x) rfl rfl rfl rfl (by kernel_rfl) (by kernel_rfl) (by kernel_rfl) (fun _ _ _ h => h) (by rfl) ?hy11x hHeld ?ry11x
        case hy11x => (intro w' hSw; (try dsimp only at hSw); go_simp <;> with_reducible rfl)
        try simp only [Act.put, List.setIfInBounds_toArray, List.set_cons_zero, List.set_cons_succ]
        refine take_op (i := 4) (d := 16) (OP := Op.move (Operand.tmp 4)) (T := 120) (v := ?vy12x) rfl rfl rfl rfl (by kernel_rfl) (by kernel_rfl) (by kernel_rfl) (fun _ _ _ h => h) (by rfl) ?hy12x hHeld ?ry12x
        case hy12x => (intro w' hSw; (try dsimp only at hSw); go_simp <;> with_reducible rfl)
        try simp only [Act.put, List.setIfInBounds_toArray, List.set_cons_zero, List.set_cons_succ]
        refine take_op (i := 5) (d := 17) (OP := Op.indexAddr 120 (Operand.tmp 16) (Operand.const (Value.int IntKind.i64 1))) (T := 0) (v := ?vy13x) rfl rfl rfl rfl (by kernel_rfl) (by kernel_rfl) (by kernel_rfl) (fun _ _ _ h => h) (by rfl) ?hy13x hHeld ?ry13x
        case hy13x => (intro w' hSw; (try dsimp only at hSw); go_simp <;> with_reducible rfl)
        try simp only [Act.put, List.setIfInBounds_toArray, List.set_cons_zero, List.set_cons_succ]
        refine take_op (i := 6) (d := 18) (OP := Op.load 9 (Operand.tmp 17)) (T := 9) (v := ?vy14x) rfl rfl rfl rfl (by kernel_rfl) (by kernel_rfl) (by kernel_rfl) (fun _ _ _ h => h) (by rfl) ?hy14x hHeld ?ry14x
        case hy14x => (intro w' hSw; (try dsimp only at hSw); go_simp <;> with_reducible rfl)
        try simp only [Act.put, List.setIfInBounds_toArray, List.set_cons_zero, List.set_cons_succ]
        refine take_op (i := 8) (d := 20) (OP := Op.move (Operand.tmp 4)) (T := 120) (v := ?vy15x) rfl rfl rfl rfl (by kernel_rfl) (by kernel_rfl) (by kernel_rfl) (fun _ _ _ h => h) (by rfl) ?hy15x hHeld ?ry15x
        case hy15x => (intro w' hSw; (try dsimp only at hSw); go_simp <;> with_reducible rfl)
        try simp only [Act.put, List.setIfInBounds_toArray, List.set_cons_zero, List.set_cons_succ]
        refine take_op (i := 9) (d := 21) (OP := Op.indexAddr 120 (Operand.tmp 20) (Operand.const (Value.int IntKind.i64 2))) (T := 0) (v := ?vy16x) rfl rfl rfl rfl (by kernel_rfl) (by kernel_rfl) (by kernel_rfl) (fun _ _ _ h => h) (by rfl) ?hy16x hHeld ?ry16x
        case hy16x => (intro w' hSw; (try dsimp only at hSw); go_simp <;> with_reducible rfl)
        try simp only [Act.put, List.setIfInBounds_toArray, List.set_cons_zero, List.set_cons_succ]
        refine take_op (i := 10) (d := 22) (OP := Op.load 9 (Operand.tmp 21)) (T := 9) (v := ?vy17x) rfl rfl rfl rfl (by kernel_rfl) (by kernel_rfl) (by kernel_rfl) (fun _ _ _ h => h) (by rfl) ?hy17x hHeld ?ry17x
        case hy17x => (intro w' hSw; (try dsimp only at hSw); go_simp <;> with_reducible rfl)
        try simp only [Act.put, List.setIfInBounds_toArray, List.set_cons_zero, List.set_cons_succ]
        have hSl6 : (W1.alloc (.cells #[.int .i64 0, .string ⟨#[]⟩, .int .i64 0] 25)).cell? ⟨ab, 0, none⟩ = some (.string a) ∧ (W1.alloc (.cells #[.int .i64 0, .string ⟨#[]⟩, .int .i64 0] 25)).cell? ⟨ab, 1, none⟩ = some (.string b) ∧ (W1.alloc (.cells #[.int .i64 0, .string ⟨#[]⟩, .int .i64 0] 25)).cell? ⟨ab, 2, none⟩ = some (.string c) := ⟨kept (below_new W1 (.cells #[.int .i64 0, .string ⟨#[]⟩, .int .i64 0] 25)) hHeld.1, kept (below_new W1 (.cells #[.int .i64 0, .string ⟨#[]⟩, .int .i64 0] 25)) hHeld.2.1, kept (below_new W1 (.cells #[.int .i64 0, .string ⟨#[]⟩, .int .i64 0] 25)) hHeld.2.2⟩
        refine call_turn_op (i := 3) (di := 15) (OPi := Op.call { callee := Callee.value (Operand.func 94), args := #[Operand.tmp 14], argTypes := #[9] }) (Ti := 2) (j := 13) (dj := 5) (OPj := Op.alloc 25) (Tj := 0) (f := 94) (args := #[.string a]) (u := .pointer (some ⟨W1.heap.size, 0, none⟩)) (w' := W1.alloc (.cells #[.int .i64 0, .string ⟨#[]⟩, .int .i64 0] 25)) rfl rfl rfl rfl rfl rfl rfl rfl (by kernel_rfl) (by rfl) (by rfl) (by go_simp) exec_alloc25 hSl6 ?_ ?_
        · refine (h94a _ hD).mono ?_
          rintro e v6 ⟨rfl, bb⟩
          have hS2 : v6.cell? ⟨ab, 0, none⟩ = some (.string a) ∧ v6.cell? ⟨ab, 1, none⟩ = some (.string b) ∧ v6.cell? ⟨ab, 2, none⟩ = some (.string c) := ⟨kept bb hHeld.1, kept bb hHeld.2.1, kept bb hHeld.2.2⟩
          clear hSl6
          replace hD := hD.trans (bb.mono hD.size)
          replace hQ := hQ.trans (bb.mono hz)
          replace hz := Nat.le_trans hz bb.size
          replace haz := Nat.lt_of_lt_of_le haz bb.size
          refine ⟨_, rfl, hS2, ?_⟩
          replace hHeld := hS2
          clear hS2 bb
          try simp only [Act.put, List.setIfInBounds_toArray, List.set_cons_zero, List.set_cons_succ]
          refine take_op (i := 7) (d := 19) (OP := Op.build 23 #[(0, Operand.tmp 15), (1, Operand.tmp 18)]) (T := 23) (v := ?vy18x) rfl rfl rfl rfl (by kernel_rfl) (by kernel_rfl) (by kernel_rfl) (fun _ _ _ h => h) (by rfl) ?hy18x hHeld ?ry18x
          case hy18x => (intro w' hSw; (try dsimp only at hSw); go_simp <;> with_reducible rfl)
          try simp only [Act.put, List.setIfInBounds_toArray, List.set_cons_zero, List.set_cons_succ]
          have hSl7 : (v6.alloc (.cells #[.int .i64 0, .string ⟨#[]⟩, .int .i64 0] 25)).cell? ⟨ab, 0, none⟩ = some (.string a) ∧ (v6.alloc (.cells #[.int .i64 0, .string ⟨#[]⟩, .int .i64 0] 25)).cell? ⟨ab, 1, none⟩ = some (.string b) ∧ (v6.alloc (.cells #[.int .i64 0, .string ⟨#[]⟩, .int .i64 0] 25)).cell? ⟨ab, 2, none⟩ = some (.string c) := ⟨kept (below_new v6 (.cells #[.int .i64 0, .string ⟨#[]⟩, .int .i64 0] 25)) hHeld.1, kept (below_new v6 (.cells #[.int .i64 0, .string ⟨#[]⟩, .int .i64 0] 25)) hHeld.2.1, kept (below_new v6 (.cells #[.int .i64 0, .string ⟨#[]⟩, .int .i64 0] 25)) hHeld.2.2⟩
          refine call_turn_op (i := 11) (di := 23) (OPi := Op.call { callee := Callee.value (Operand.func 94), args := #[Operand.tmp 22], argTypes := #[9] }) (Ti := 2) (j := 13) (dj := 5) (OPj := Op.alloc 25) (Tj := 0) (f := 94) (args := #[.string c]) (u := .pointer (some ⟨v6.heap.size, 0, none⟩)) (w' := v6.alloc (.cells #[.int .i64 0, .string ⟨#[]⟩, .int .i64 0] 25)) rfl rfl rfl rfl rfl rfl rfl rfl (by kernel_rfl) (by rfl) (by rfl) (by go_simp) exec_alloc25 hSl7 ?_ ?_
          · refine (h94c _ hD).mono ?_
            rintro e v7 ⟨rfl, bb⟩
            have hS2 : v7.cell? ⟨ab, 0, none⟩ = some (.string a) ∧ v7.cell? ⟨ab, 1, none⟩ = some (.string b) ∧ v7.cell? ⟨ab, 2, none⟩ = some (.string c) := ⟨kept bb hHeld.1, kept bb hHeld.2.1, kept bb hHeld.2.2⟩
            clear hSl7
            replace hD := hD.trans (bb.mono hD.size)
            replace hQ := hQ.trans (bb.mono hz)
            replace hz := Nat.le_trans hz bb.size
            replace haz := Nat.lt_of_lt_of_le haz bb.size
            refine ⟨_, rfl, hS2, ?_⟩
            replace hHeld := hS2
            clear hS2 bb
            try simp only [Act.put, List.setIfInBounds_toArray, List.set_cons_zero, List.set_cons_succ]
            refine take_op (i := 12) (d := 24) (OP := Op.build 25 #[(0, Operand.tmp 19), (1, Operand.tmp 23)]) (T := 25) (v := ?vy19x) rfl rfl rfl rfl (by kernel_rfl) (by kernel_rfl) (by kernel_rfl) (fun _ _ _ h => h) (by rfl) ?hy19x hHeld ?ry19x
            case hy19x => (intro w' hSw; (try dsimp only at hSw); go_simp <;> with_reducible rfl)
            try simp only [Act.put, List.setIfInBounds_toArray, List.set_cons_zero, List.set_cons_succ]
            have hSl8 : (v7.alloc (.cells #[.int .i64 0, .string ⟨#[]⟩, .int .i64 0] 25)).cell? ⟨ab, 0, none⟩ = some (.string a) ∧ (v7.alloc (.cells #[.int .i64 0, .string ⟨#[]⟩, .int .i64 0] 25)).cell? ⟨ab, 1, none⟩ = some (.string b) ∧ (v7.alloc (.cells #[.int .i64 0, .string ⟨#[]⟩, .int .i64 0] 25)).cell? ⟨ab, 2, none⟩ = some (.string c) := ⟨kept (below_new v7 (.cells #[.int .i64 0, .string ⟨#[]⟩, .int .i64 0] 25)) hHeld.1, kept (below_new v7 (.cells #[.int .i64 0, .string ⟨#[]⟩, .int .i64 0] 25)) hHeld.2.1, kept (below_new v7 (.cells #[.int .i64 0, .string ⟨#[]⟩, .int .i64 0] 25)) hHeld.2.2⟩
            refine turn_op (i := 13) (d := 5) (OP := Op.alloc 25) (T := 0) (v := .pointer (some ⟨v7.heap.size, 0, none⟩)) (w' := v7.alloc (.cells #[.int .i64 0, .string ⟨#[]⟩, .int .i64 0] 25)) rfl rfl rfl rfl (by kernel_rfl) (by rfl) (exec_alloc25) hSl8 ?_
            replace hHeld := hSl8
            try simp only [Act.put, List.setIfInBounds_toArray, List.set_cons_zero, List.set_cons_succ]
            have mP := heap_alloc_new v7 (.cells #[.int .i64 0, .string ⟨#[]⟩, .int .i64 0] 25)
            replace hD := hD.alloc hD.size (.cells #[.int .i64 0, .string ⟨#[]⟩, .int .i64 0] 25)
            replace hQ := hQ.alloc hz (.cells #[.int .i64 0, .string ⟨#[]⟩, .int .i64 0] 25)
            have hp : w.heap.size + 1 ≤ v7.heap.size := hz
            have hpz : v7.heap.size < (v7.alloc (.cells #[.int .i64 0, .string ⟨#[]⟩, .int .i64 0] 25)).heap.size := by simp
            replace hz : w.heap.size + 1 ≤ (v7.alloc (.cells #[.int .i64 0, .string ⟨#[]⟩, .int .i64 0] 25)).heap.size := by simp; omega
            clear hSl8
            have hab : ab < v7.heap.size := haz
            replace haz : ab < (v7.alloc (.cells #[.int .i64 0, .string ⟨#[]⟩, .int .i64 0] 25)).heap.size := by simp; omega
            generalize v7.heap.size = Pn at mP hp hpz hab ⊢
            generalize v7.alloc (.cells #[.int .i64 0, .string ⟨#[]⟩, .int .i64 0] 25) = x8 at hHeld mP hD hQ hz hpz haz ⊢
            obtain ⟨z0, z1, z2, zf0, zf1, zf2⟩ := blk3 mP
            have hne : Pn ≠ ab := by omega
            have hx8 : (((x8.setCell ⟨Pn, 0, none⟩ (.int .i64 GA)).setCell ⟨Pn, 1, none⟩ (.string b)).setCell ⟨Pn, 2, none⟩ (.int .i64 GC)).cell? ⟨ab, 0, none⟩ = some (.string a) ∧ (((x8.setCell ⟨Pn, 0, none⟩ (.int .i64 GA)).setCell ⟨Pn, 1, none⟩ (.string b)).setCell ⟨Pn, 2, none⟩ (.int .i64 GC)).cell? ⟨ab, 1, none⟩ = some (.string b) ∧ (((x8.setCell ⟨Pn, 0, none⟩ (.int .i64 GA)).setCell ⟨Pn, 1, none⟩ (.string b)).setCell ⟨Pn, 2, none⟩ (.int .i64 GC)).cell? ⟨ab, 2, none⟩ = some (.string c) := ⟨by rw [set3_other hne]; exact hHeld.1, by rw [set3_other hne]; exact hHeld.2.1, by rw [set3_other hne]; exact hHeld.2.2⟩
            refine skip_op (i := 14) (OP := Op.store 25 (Operand.tmp 5) (Operand.tmp 24)) (T := 0) (w' := (((x8.setCell ⟨Pn, 0, none⟩ (.int .i64 GA)).setCell ⟨Pn, 1, none⟩ (.string b)).setCell ⟨Pn, 2, none⟩ (.int .i64 GC))) rfl rfl rfl rfl (by kernel_rfl) (by rfl) (by go_simp) ⟨hx8, ?_⟩
            refine wpAnyH_done (by kernel_rfl) ?_ _
            go_wp2
            go_meet
            exact ⟨Pn, rfl, hide ⟨set3 mP, bel3 (by omega) hD, bel3 hp hQ, by simp only [setCell_size]; omega⟩⟩
          · try simp only [Act.put, List.setIfInBounds_toArray, List.set_cons_zero, List.set_cons_succ]
            replace hHeld := hSl7
            have mP := heap_alloc_new v6 (.cells #[.int .i64 0, .string ⟨#[]⟩, .int .i64 0] 25)
            replace hD := hD.alloc hD.size (.cells #[.int .i64 0, .string ⟨#[]⟩, .int .i64 0] 25)
            replace hQ := hQ.alloc hz (.cells #[.int .i64 0, .string ⟨#[]⟩, .int .i64 0] 25)
            have hp : w.heap.size + 1 ≤ v6.heap.size := hz
            have hpz : v6.heap.size < (v6.alloc (.cells #[.int .i64 0, .string ⟨#[]⟩, .int .i64 0] 25)).heap.size := by simp
            replace hz : w.heap.size + 1 ≤ (v6.alloc (.cells #[.int .i64 0, .string ⟨#[]⟩, .int .i64 0] 25)).heap.size := by simp; omega
            clear hSl7
            have hab : ab < v6.heap.size := haz
            replace haz : ab < (v6.alloc (.cells #[.int .i64 0, .string ⟨#[]⟩, .int .i64 0] 25)).heap.size := by simp; omega
            generalize v6.heap.size = Pn at mP hp hpz hab ⊢
            generalize v6.alloc (.cells #[.int .i64 0, .string ⟨#[]⟩, .int .i64 0] 25) = x7 at hHeld mP hD hQ hz hpz haz ⊢
            refine call_op (i := 11) (d := 23) (OP := Op.call { callee := Callee.value (Operand.func 94), args := #[Operand.tmp 22], argTypes := #[9] }) (T := 2) (f := 94) (args := #[.string c]) rfl rfl rfl rfl (by kernel_rfl) (by rfl) (by go_simp) ?_
            refine (h94c _ hD).mono ?_
            rintro e v10 ⟨rfl, bb⟩
            have hS2 : v10.cell? ⟨ab, 0, none⟩ = some (.string a) ∧ v10.cell? ⟨ab, 1, none⟩ = some (.string b) ∧ v10.cell? ⟨ab, 2, none⟩ = some (.string c) := ⟨kept bb hHeld.1, kept bb hHeld.2.1, kept bb hHeld.2.2⟩
            replace hD := hD.trans (bb.mono hD.size)
            replace hQ := hQ.trans (bb.mono hz)
            replace hz := Nat.le_trans hz bb.size
            replace haz := Nat.lt_of_lt_of_le haz bb.size
            replace mP := (bb.block _ hpz).trans mP
            replace hpz := Nat.lt_of_lt_of_le hpz bb.size
            clear bb
            refine ⟨_, rfl, hS2, ?_⟩
            replace hHeld := hS2
            try simp only [Act.put, List.setIfInBounds_toArray, List.set_cons_zero, List.set_cons_succ]
            clear hS2
            refine take_op (i := 12) (d := 24) (OP := Op.build 25 #[(0, Operand.tmp 19), (1, Operand.tmp 23)]) (T := 25) (v := ?vy20x) rfl rfl rfl rfl (by kernel_rfl) (by kernel_rfl) (by kernel_rfl) (fun _ _ _ h => h) (by rfl) ?hy20x hHeld ?ry20x
            case hy20x => (intro w' hSw; (try dsimp only at hSw); go_simp <;> with_reducible rfl)
            try simp only [Act.put, List.setIfInBounds_toArray, List.set_cons_zero, List.set_cons_succ]
            obtain ⟨z0, z1, z2, zf0, zf1, zf2⟩ := blk3 mP
            have hne : Pn ≠ ab := by omega
            have hx8 : (((v10.setCell ⟨Pn, 0, none⟩ (.int .i64 GA)).setCell ⟨Pn, 1, none⟩ (.string b)).setCell ⟨Pn, 2, none⟩ (.int .i64 GC)).cell? ⟨ab, 0, none⟩ = some (.string a) ∧ (((v10.setCell ⟨Pn, 0, none⟩ (.int .i64 GA)).setCell ⟨Pn, 1, none⟩ (.string b)).setCell ⟨Pn, 2, none⟩ (.int .i64 GC)).cell? ⟨ab, 1, none⟩ = some (.string b) ∧ (((v10.setCell ⟨Pn, 0, none⟩ (.int .i64 GA)).setCell ⟨Pn, 1, none⟩ (.string b)).setCell ⟨Pn, 2, none⟩ (.int .i64 GC)).cell? ⟨ab, 2, none⟩ = some (.string c) := ⟨by rw [set3_other hne]; exact hHeld.1, by rw [set3_other hne]; exact hHeld.2.1, by rw [set3_other hne]; exact hHeld.2.2⟩
            refine skip_op (i := 14) (OP := Op.store 25 (Operand.tmp 5) (Operand.tmp 24)) (T := 0) (w' := (((v10.setCell ⟨Pn, 0, none⟩ (.int .i64 GA)).setCell ⟨Pn, 1, none⟩ (.string b)).setCell ⟨Pn, 2, none⟩ (.int .i64 GC))) rfl rfl rfl rfl (by kernel_rfl) (by rfl) (by go_simp) ⟨hx8, ?_⟩
            refine wpAnyH_done (by kernel_rfl) ?_ _
            go_wp2
            go_meet
            exact ⟨Pn, rfl, hide ⟨set3 mP, bel3 (by omega) hD, bel3 hp hQ, by simp only [setCell_size]; omega⟩⟩
        · try simp only [Act.put, List.setIfInBounds_toArray, List.set_cons_zero, List.set_cons_succ]
          replace hHeld := hSl6
          have mP := heap_alloc_new W1 (.cells #[.int .i64 0, .string ⟨#[]⟩, .int .i64 0] 25)
          replace hD := hD.alloc hD.size (.cells #[.int .i64 0, .string ⟨#[]⟩, .int .i64 0] 25)
          replace hQ := hQ.alloc hz (.cells #[.int .i64 0, .string ⟨#[]⟩, .int .i64 0] 25)
          have hp : w.heap.size + 1 ≤ W1.heap.size := hz
          have hpz : W1.heap.size < (W1.alloc (.cells #[.int .i64 0, .string ⟨#[]⟩, .int .i64 0] 25)).heap.size := by simp
          replace hz : w.heap.size + 1 ≤ (W1.alloc (.cells #[.int .i64 0, .string ⟨#[]⟩, .int .i64 0] 25)).heap.size := by simp; omega
          clear hSl6
          have hab : ab < W1.heap.size := haz
          replace haz : ab < (W1.alloc (.cells #[.int .i64 0, .string ⟨#[]⟩, .int .i64 0] 25)).heap.size := by simp; omega
          generalize W1.heap.size = Pn at mP hp hpz hab ⊢
          generalize W1.alloc (.cells #[.int .i64 0, .string ⟨#[]⟩, .int .i64 0] 25) = x6 at hHeld mP hD hQ hz hpz haz ⊢
          refine call_op (i := 3) (d := 15) (OP := Op.call { callee := Callee.value (Operand.func 94), args := #[Operand.tmp 14], argTypes := #[9] }) (T := 2) (f := 94) (args := #[.string a]) rfl rfl rfl rfl (by kernel_rfl) (by rfl) (by go_simp) ?_
          refine (h94a _ hD).mono ?_
          rintro e v12 ⟨rfl, bb⟩
          have hS2 : v12.cell? ⟨ab, 0, none⟩ = some (.string a) ∧ v12.cell? ⟨ab, 1, none⟩ = some (.string b) ∧ v12.cell? ⟨ab, 2, none⟩ = some (.string c) := ⟨kept bb hHeld.1, kept bb hHeld.2.1, kept bb hHeld.2.2⟩
          replace hD := hD.trans (bb.mono hD.size)
          replace hQ := hQ.trans (bb.mono hz)
          replace hz := Nat.le_trans hz bb.size
          replace haz := Nat.lt_of_lt_of_le haz bb.size
          replace mP := (bb.block _ hpz).trans mP
          replace hpz := Nat.lt_of_lt_of_le hpz bb.size
          clear bb
          refine ⟨_, rfl, hS2, ?_⟩
          replace hHeld := hS2
          try simp only [Act.put, List.setIfInBounds_toArray, List.set_cons_zero, List.set_cons_succ]
          clear hS2
          refine take_op (i := 7) (d := 19) (OP := Op.build 23 #[(0, Operand.tmp 15), (1, Operand.tmp 18)]) (T := 23) (v := ?vy21x) rfl rfl rfl rfl (by kernel_rfl) (by kernel_rfl) (by kernel_rfl) (fun _ _ _ h => h) (by rfl) ?hy21x hHeld ?ry21x
          case hy21x => (intro w' hSw; (try dsimp only at hSw); go_simp <;> with_reducible rfl)
          try simp only [Act.put, List.setIfInBounds_toArray, List.set_cons_zero, List.set_cons_succ]
          refine call_op (i := 11) (d := 23) (OP := Op.call { callee := Callee.value (Operand.func 94), args := #[Operand.tmp 22], argTypes := #[9] }) (T := 2) (f := 94) (args := #[.string c]) rfl rfl rfl rfl (by kernel_rfl) (by rfl) (by go_simp) ?_
          refine (h94c _ hD).mono ?_
          rintro e v13 ⟨rfl, bb⟩
          have hS2 : v13.cell? ⟨ab, 0, none⟩ = some (.string a) ∧ v13.cell? ⟨ab, 1, none⟩ = some (.string b) ∧ v13.cell? ⟨ab, 2, none⟩ = some (.string c) := ⟨kept bb hHeld.1, kept bb hHeld.2.1, kept bb hHeld.2.2⟩
          replace hD := hD.trans (bb.mono hD.size)
          replace hQ := hQ.trans (bb.mono hz)
          replace hz := Nat.le_trans hz bb.size
          replace haz := Nat.lt_of_lt_of_le haz bb.size
          replace mP := (bb.block _ hpz).trans mP
          replace hpz := Nat.lt_of_lt_of_le hpz bb.size
          clear bb
          refine ⟨_, rfl, hS2, ?_⟩
          replace hHeld := hS2
          try simp only [Act.put, List.setIfInBounds_toArray, List.set_cons_zero, List.set_cons_succ]
          clear hS2
          refine take_op (i := 12) (d := 24) (OP := Op.build 25 #[(0, Operand.tmp 19), (1, Operand.tmp 23)]) (T := 25) (v := ?vy22x) rfl rfl rfl rfl (by kernel_rfl) (by kernel_rfl) (by kernel_rfl) (fun _ _ _ h => h) (by rfl) ?hy22x hHeld ?ry22x
          case hy22x => (intro w' hSw; (try dsimp only at hSw); go_simp <;> with_reducible rfl)
          try simp only [Act.put, List.setIfInBounds_toArray, List.set_cons_zero, List.set_cons_succ]
          obtain ⟨z0, z1, z2, zf0, zf1, zf2⟩ := blk3 mP
          have hne : Pn ≠ ab := by omega
          have hx8 : (((v13.setCell ⟨Pn, 0, none⟩ (.int .i64 GA)).setCell ⟨Pn, 1, none⟩ (.string b)).setCell ⟨Pn, 2, none⟩ (.int .i64 GC)).cell? ⟨ab, 0, none⟩ = some (.string a) ∧ (((v13.setCell ⟨Pn, 0, none⟩ (.int .i64 GA)).setCell ⟨Pn, 1, none⟩ (.string b)).setCell ⟨Pn, 2, none⟩ (.int .i64 GC)).cell? ⟨ab, 1, none⟩ = some (.string b) ∧ (((v13.setCell ⟨Pn, 0, none⟩ (.int .i64 GA)).setCell ⟨Pn, 1, none⟩ (.string b)).setCell ⟨Pn, 2, none⟩ (.int .i64 GC)).cell? ⟨ab, 2, none⟩ = some (.string c) := ⟨by rw [set3_other hne]; exact hHeld.1, by rw [set3_other hne]; exact hHeld.2.1, by rw [set3_other hne]; exact hHeld.2.2⟩
          refine skip_op (i := 14) (OP := Op.store 25 (Operand.tmp 5) (Operand.tmp 24)) (T := 0) (w' := (((v13.setCell ⟨Pn, 0, none⟩ (.int .i64 GA)).setCell ⟨Pn, 1, none⟩ (.string b)).setCell ⟨Pn, 2, none⟩ (.int .i64 GC))) rfl rfl rfl rfl (by kernel_rfl) (by rfl) (by go_simp) ⟨hx8, ?_⟩
          refine wpAnyH_done (by kernel_rfl) ?_ _
          go_wp2
          go_meet
          exact ⟨Pn, rfl, hide ⟨set3 mP, bel3 (by omega) hD, bel3 hp hQ, by simp only [setCell_size]; omega⟩⟩
    case rest =>
      clear hS1 hD hQ hz haz b1
      obtain ⟨Pn, rfl, HP⟩ := hcut
      obtain ⟨mP, hD, hQ, hz⟩ := HP.out
      obtain ⟨y0, y1, y2, _, _, _⟩ := blk3 mP
      have hwz : w.heap.size + 1 ≤ wc.heap.size := by have := hQ.size; omega
      cases VV with
      | false =>
        have hpv : PV = false := by have := HV.out.1; simpa using this.symm
        obtain ⟨e0, e1, e2, eE⟩ := HV.out.2.2 hpv
        have HEQ := hide (And.intro eE (And.intro e0 (And.intro e1 e2)))
        clear eE e0 e1 e2
        go_wp2_with (go_at_call 20; refine (hv _).mono ?_; rintro e w5 ⟨rfl, b5⟩; have HR := hide (hk w5 (hQ.trans (b5.mono hwz))); obtain ⟨z0, z1, z2, zf0, zf1, zf2⟩ := blk3 HR.out; have hD5 := hD.trans (b5.mono hD.size); clear b5)
        refine ret_row_tmp w.heap.size [.int .i64 0, .string ⟨#[]⟩, .int .i64 0] rfl rfl rfl Tryz.underlying25 rfl (by kernel_rfl) (t := 25) (fr := (0, 0)) (set3 HR.out) rfl ?_
        exact ⟨by rw [HEQ.out.1, HEQ.out.2.1, HEQ.out.2.2.1, HEQ.out.2.2.2] <;> rfl, bel3 (Nat.le_refl _) hD5⟩
      | true =>
        have hty := ht rfl
        clear ht
        by_cases hTs : TT = s
        · have hpv : PV = true := by have := HV.out.1; rw [← this]; simp [hTs]
          obtain ⟨e0, e1, e2, eE⟩ := HV.out.2.1 hpv
          have HEQ := hide (And.intro eE (And.intro e0 (And.intro e1 e2)))
          clear eE e0 e1 e2
          subst hTs
          go_wp2_with (go_at_call 20; refine (hv _).mono ?_; rintro e w5 ⟨rfl, b5⟩; have mP5 := (b5.block _ hz).trans mP; have hD5 := hD.trans (b5.mono hD.size); have hQ5 := hQ.trans (b5.mono hwz); have hz5 := Nat.le_trans hwz b5.size; have hzP := Nat.lt_of_lt_of_le hz b5.size; clear y0 y1 y2 b5; obtain ⟨y0, y1, y2, _, _, _⟩ := blk3 mP5)
          go_wp2_with (go_at_call 28; refine (hty _ hD5).mono ?_; rintro e w6 ⟨rfl, b6⟩; have mP6 := (b6.block _ hzP).trans mP5; have HR := hide (hk w6 (hQ5.trans (b6.mono hz5))); have hD6 := hD5.trans (b6.mono hD5.size); clear y0 y1 y2 b6; obtain ⟨y0, y1, y2, _, _, _⟩ := blk3 mP6; obtain ⟨z0, z1, z2, zf0, zf1, zf2⟩ := blk3 HR.out)
          refine ret_row_tmp w.heap.size [.int .i64 GA, .string b, .int .i64 GC] rfl rfl rfl Tryz.underlying25 rfl (by kernel_rfl) (t := 25) (fr := (0, 0)) (set3 HR.out) rfl ?_
          exact ⟨by rw [HEQ.out.1, HEQ.out.2.1, HEQ.out.2.2.1, HEQ.out.2.2.2] <;> rfl, bel3 (Nat.le_refl _) hD6⟩
        · have hpv : PV = false := by have := HV.out.1; rw [← this]; simp [hTs]
          obtain ⟨e0, e1, e2, eE⟩ := HV.out.2.2 hpv
          have HEQ := hide (And.intro eE (And.intro e0 (And.intro e1 e2)))
          clear eE e0 e1 e2
          have hTn : (TT.toList == s.toList) = false := by rw [beq_eq_false_iff_ne, ByteArray.toList_eq, ByteArray.toList_eq]; exact fun h => hTs (ba_ext h)
          go_wp2_with (go_at_call 20; refine (hv _).mono ?_; rintro e w5 ⟨rfl, b5⟩; have mP5 := (b5.block _ hz).trans mP; have hD5 := hD.trans (b5.mono hD.size); have hQ5 := hQ.trans (b5.mono hwz); have hz5 := Nat.le_trans hwz b5.size; clear y0 y1 y2 b5; obtain ⟨y0, y1, y2, _, _, _⟩ := blk3 mP5)
          go_wp2_with (go_at_call 28; refine (hty _ hD5).mono ?_; rintro e w6 ⟨rfl, b6⟩; have HR := hide (hk w6 (hQ5.trans (b6.mono hz5))); have hD6 := hD5.trans (b6.mono hD5.size); clear b6; obtain ⟨z0, z1, z2, zf0, zf1, zf2⟩ := blk3 HR.out)
          refine ret_row_tmp w.heap.size [.int .i64 0, .string ⟨#[]⟩, .int .i64 0] rfl rfl rfl Tryz.underlying25 rfl (by kernel_rfl) (t := 25) (fr := (0, 0)) (set3 HR.out) rfl ?_
          exact ⟨by rw [HEQ.out.1, HEQ.out.2.1, HEQ.out.2.2.1, HEQ.out.2.2.2] <;> rfl, bel3 (Nat.le_refl _) hD6⟩
  · have hpv : PV = false := by rw [hPV]; exact dn_ne hn
    obtain ⟨e0, e1, e2, eE⟩ := hF hpv
    have HEQ := hide (And.intro eE (And.intro e0 (And.intro e1 e2)))
    clear eE hF hPV hEe hpv hpl e0 hP0 e1 hP1 e2 hP2
    generalize pcs s = PC at h93 hn
    have hn2 : ((PC.length : Int) == 3) = false := by rw [beq_eq_false_iff_ne]; omega
    clear hn
    go_enter Tryz.func45, Tryz.ntmps45
    go_wp2_with (go_at_call 93; refine h93.mono ?_; rintro e w1 ⟨v, rfl, hO, b1⟩; obtain ⟨ao, cc, rfl, -, -, -, -⟩ := hO.shape; have HR := hide (hk w1 (b1.mono (by omega))); obtain ⟨z0, z1, z2, zf0, zf1, zf2⟩ := blk3 HR.out; have hD5 := hb.trans (b1.mono hb.size); clear hO b1)
    refine ret_row_tmp w.heap.size [.int .i64 0, .string ⟨#[]⟩, .int .i64 0] rfl rfl rfl Tryz.underlying25 rfl (by kernel_rfl) (t := 25) (fr := (0, 0)) (set3 HR.out) rfl ?_
    exact ⟨by rw [HEQ.out.1, HEQ.out.2.1, HEQ.out.2.2.1, HEQ.out.2.2.2] <;> rfl, bel3 (Nat.le_refl _) hD5⟩
end Go.Proofs.YtkjabnpniingnaaGreatDoor
