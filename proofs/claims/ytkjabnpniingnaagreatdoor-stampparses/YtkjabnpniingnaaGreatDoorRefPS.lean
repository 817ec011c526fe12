/-
  REFPARSES: the document's reading of a text.
-/
import Derived.Test.YtkjabnpniingnaaGreatDoorRefPB
import Derived.Deep.DeepCutAuto
import Derived.Deep.CutBlock
namespace Go.Proofs.YtkjabnpniingnaaGreatDoor
open Go.RowKit Go.Shelf
set_option linter.unusedSimpArgs false

set_option maxHeartbeats 4000000 in
set_option maxRecDepth 100000 in
theorem refParse_any (s : ByteArray) (w : World) (hs : s.size ≤ 100000) (hE : EnvE w) : Calls Tryz.prog 47 #[.string s] w fun e w' => e = .returned (.tuple #[sv (psG s) (psR s) (psL s) (psN s) (psX s), .int .i64 (if psV s then 0 else 4)]) ∧ Below w.heap.size w w' := by
  have hb := below_new w (.cells #[.int .i64 0, .int .i64 0, .string ⟨#[]⟩, .int .i64 0, .int .i64 0] 27)
  have hbk := heap_alloc_new w (.cells #[.int .i64 0, .int .i64 0, .string ⟨#[]⟩, .int .i64 0, .int .i64 0] 27)
  have hs1 : w.heap.size + 1 = (w.alloc (.cells #[.int .i64 0, .int .i64 0, .string ⟨#[]⟩, .int .i64 0, .int .i64 0] 27)).heap.size := by simp
  have h93 := cut9_any s (w.alloc (.cells #[.int .i64 0, .int .i64 0, .string ⟨#[]⟩, .int .i64 0, .int .i64 0] 27)) (by omega)
  have hk : ∀ W, Below (w.heap.size + 1) (w.alloc (.cells #[.int .i64 0, .int .i64 0, .string ⟨#[]⟩, .int .i64 0, .int .i64 0] 27)) W → W.heap[w.heap.size]? = some (.cells #[.int .i64 0, .int .i64 0, .string ⟨#[]⟩, .int .i64 0, .int .i64 0] 27) := fun W h => (h.block _ (by omega)).trans hbk
  have hpl := pcs_sizes s
  obtain ⟨PV, hPV⟩ : ∃ PV, PV = psV s := ⟨_, rfl⟩
  obtain ⟨E, hEe⟩ : ∃ E : Int, E = (if psV s then 0 else 4) := ⟨_, rfl⟩
  obtain ⟨P0, hP0⟩ : ∃ P0, P0 = psG s := ⟨_, rfl⟩
  obtain ⟨P1, hP1⟩ : ∃ P1, P1 = psR s := ⟨_, rfl⟩
  obtain ⟨P2, hP2⟩ : ∃ P2, P2 = psL s := ⟨_, rfl⟩
  obtain ⟨P3, hP3⟩ : ∃ P3, P3 = psN s := ⟨_, rfl⟩
  obtain ⟨P4, hP4⟩ : ∃ P4, P4 = psX s := ⟨_, rfl⟩
  rw [← hEe, ← hP0, ← hP1, ← hP2, ← hP3, ← hP4]
  have hF : PV = false → P0 = 0 ∧ P1 = 0 ∧ P2 = ⟨#[]⟩ ∧ P3 = 0 ∧ P4 = 0 ∧ E = 4 := fun h => by rw [h] at hPV; rw [hEe, hP0, hP1, hP2, hP3, hP4]; unfold psG psR psL psN psX; rw [← hPV]; exact ⟨rfl, rfl, rfl, rfl, rfl, rfl⟩
  by_cases hn : (pcs s).length = 5
  · obtain ⟨a, b, c, d, f, hp⟩ : ∃ a b c d f, pcs s = [a, b, c, d, f] := len5 hn
    have hsz : a.size ≤ s.size ∧ b.size ≤ s.size ∧ c.size ≤ s.size ∧ d.size ≤ s.size ∧ f.size ≤ s.size := by rw [hp] at hpl; exact ⟨hpl a (by simp), hpl b (by simp), hpl c (by simp), hpl d (by simp), hpl f (by simp)⟩
    obtain ⟨hVe, hVv⟩ := ds_eq hp
    have h94a : ∀ W, Below w.heap.size w W → Calls Tryz.prog 94 #[.string a] W fun e w' => e = .returned (.int .i64 (guessI a)) ∧ Below W.heap.size W w' := fun W h => read_any a W (by omega) (hE.below h)
    have h94b : ∀ W, Below w.heap.size w W → Calls Tryz.prog 94 #[.string b] W fun e w' => e = .returned (.int .i64 (guessI b)) ∧ Below W.heap.size W w' := fun W h => read_any b W (by omega) (hE.below h)
    have h94d : ∀ W, Below w.heap.size w W → Calls Tryz.prog 94 #[.string d] W fun e w' => e = .returned (.int .i64 (guessI d)) ∧ Below W.heap.size W w' := fun W h => read_any d W (by omega) (hE.below h)
    have h94f : ∀ W, Below w.heap.size w W → Calls Tryz.prog 94 #[.string f] W fun e w' => e = .returned (.int .i64 (guessI f)) ∧ Below W.heap.size W w' := fun W h => read_any f W (by omega) (hE.below h)
    obtain ⟨GA, hGA⟩ : ∃ GA, guessI a = GA := ⟨_, rfl⟩
    rw [hGA] at h94a hVe hVv
    obtain ⟨GB, hGB⟩ : ∃ GB, guessI b = GB := ⟨_, rfl⟩
    rw [hGB] at h94b hVe hVv
    obtain ⟨GD, hGD⟩ : ∃ GD, guessI d = GD := ⟨_, rfl⟩
    rw [hGD] at h94d hVe hVv
    obtain ⟨GE, hGE⟩ : ∃ GE, guessI f = GE := ⟨_, rfl⟩
    rw [hGE] at h94f hVe hVv
    have hT : PV = true → P0 = GA ∧ P1 = GB ∧ P2 = c ∧ P3 = GD ∧ P4 = GE ∧ E = 0 := fun h => by
      rw [h] at hPV
      obtain ⟨e0, e1, e2, e3, e4⟩ := hVv hPV.symm
      rw [hEe, ← hPV, hP0, hP1, hP2, hP3, hP4, ← e0, ← e1, ← e2, ← e3, ← e4]; exact ⟨rfl, rfl, rfl, rfl, rfl, rfl⟩
    rw [← hPV] at hVe
    have hv : ∀ W, Calls Tryz.prog 18 #[.agg #[.int .i64 GA, .int .i64 GB, .string c, .int .i64 GD, .int .i64 GE]] W fun e w' => e = .returned (.bool (stampV GA GB c GD GE)) ∧ Below W.heap.size W w' := fun W => refStamp_any GA GB c GD GE W (by omega)
    have ht : stampV GA GB c GD GE = true → ∀ W, Below w.heap.size w W → Calls Tryz.prog 24 #[.agg #[.int .i64 GA, .int .i64 GB, .string c, .int .i64 GD, .int .i64 GE]] W fun e w' => e = .returned (.string (stT GA GB c GD GE)) ∧ Below W.heap.size W w' := fun hv W h => by
      have := S_bounds hv
      exact refText_any GA GB c GD GE W (by omega) (by omega) (by omega) (by omega) (by omega) (by omega) (by omega) (by omega) (by omega) (hE.below h).env
    generalize stT GA GB c GD GE = TT at ht hVe
    generalize stampV GA GB c GD GE = VV at hv ht hVe
    rw [hp] at h93
    clear hVv hpl hn hp hE hPV hEe hP0 hP1 hP2 hP3 hP4 hGA hGB hGD hGE
    have HV := hide (And.intro hVe (And.intro hT hF))
    clear hVe hT hF
    go_enter Tryz.func47, Tryz.ntmps47
    go_upto_region 4 with (go_at_call 93; refine h93.mono ?_; rintro e w1 ⟨v, rfl, hO, b1⟩; obtain ⟨ab, cc, rfl, hb0, hb1, hq⟩ := hO.at (k := 5) rfl (by omega); clear hO)
    have hD : Below w.heap.size w w1.drew := (hb.trans (b1.mono hb.size)).drew
    have hQ : Below (w.heap.size + 1) (w.alloc (.cells #[.int .i64 0, .int .i64 0, .string ⟨#[]⟩, .int .i64 0, .int .i64 0] 27)) w1.drew := (b1.mono (by omega)).drew
    have hz : w.heap.size + 1 ≤ w1.drew.heap.size := by have := b1.size; show _ ≤ w1.heap.size; omega
    have haz : ab < w1.drew.heap.size := hb1
    have hS1 : w1.drew.cell? ⟨ab, 0, none⟩ = some (.string a) ∧ w1.drew.cell? ⟨ab, 1, none⟩ = some (.string b) ∧ w1.drew.cell? ⟨ab, 2, none⟩ = some (.string c) ∧ w1.drew.cell? ⟨ab, 3, none⟩ = some (.string d) ∧ w1.drew.cell? ⟨ab, 4, none⟩ = some (.string f) := ⟨hq 0 a rfl, hq 1 b rfl, hq 2 c rfl, hq 3 d rfl, hq 4 f rfl⟩
    clear hq
    go_cut [5] (fun v5 wc => ∃ Pn, v5 = .pointer (some ⟨Pn, 0, none⟩) ∧ Hid (wc.heap[Pn]? = some (.cells #[.int .i64 GA, .int .i64 GB, .string c, .int .i64 GD, .int .i64 GE] 27 (0, 0)) ∧ Below w.heap.size w wc ∧ Below (w.heap.size + 1) (w.alloc (.cells #[.int .i64 0, .int .i64 0, .string ⟨#[]⟩, .int .i64 0, .int .i64 0] 27)) wc ∧ Pn < wc.heap.size))
    case first =>
      as_aux_lemma =>
        refine wp_region_held_drew (S := (fun w' => w'.cell? ⟨ab, 0, none⟩ = some (.string a) ∧ w'.cell? ⟨ab, 1, none⟩ = some (.string b) ∧ w'.cell? ⟨ab, 2, none⟩ = some (.string c) ∧ w'.cell? ⟨ab, 3, none⟩ = some (.string d) ∧ w'.cell? ⟨ab, 4, none⟩ = some (.string f))) (by kernel_rfl) (by exact hS1) (fun hHeld => ?_)
        try dsimp only at hHeld
        generalize w1.drew = W1 at hHeld hD hQ hz haz ⊢
        refine take_op (i := 0) (d := 12) (OP := Op.move (Operand.tmp 4)) (T := 120) (v := ?vy23x) rfl rfl rfl rfl (by kernel_rfl) (by kernel_rfl) (by kernel_rfl) (fun _ _ _ h => h) (by rfl) ?hy23x hHeld ?ry23x
        case hy23x => (intro w' hSw; (try dsimp only at hSw); go_simp <;> with_reducible rfl)
        try simp only [Act.put, List.setIfInBounds_toArray, List.set_cons_zero, List.set_cons_succ]
        refine take_op (i := 1) (d := 13) (OP := Op.indexAddr 120 (Operand.tmp 12) (Operand.const (Value.int IntKind.i64 0))) (T := 0) (v := ?vy24x) rfl rfl rfl rfl (by kernel_rfl) (by kernel_rfl) (by kernel_rfl) (fun _ _ _ h => h) (by rfl) ?hy24x hHeld ?ry24x
        case hy24x => (intro w' hSw; (try dsimp only at hSw); go_simp <;> with_reducible rfl)
        try simp only [Act.put, List.setIfInBounds_toArray, List.set_cons_zero, List.set_cons_succ]
        refine take_op (i := 2) (d := 14) (OP := Op.load 9 (Operand.tmp 13)) (T := 9) (v := ?vy25x) rfl rfl rfl rfl (by kernel_rfl) (by kernel_rfl) (by kernel_rfl) (fun _ _ _ h => h) (by rfl) ?hy25x hHeld ?ry25x
        case hy25x => (intro w' hSw; (try dsimp only at hSw); go_simp <;> with_reducible rfl)
        try simp only [Act.put, List.setIfInBounds_toArray, List.set_cons_zero, List.set_cons_succ]
        refine take_op (i := 4) (d := 16) (OP := Op.move (Operand.tmp 4)) (T := 120) (v := ?vy26x) rfl rfl rfl rfl (by kernel_rfl) (by kernel_rfl) (by kernel_rfl) (fun _ _ _ h => h) (by rfl) ?hy26x hHeld ?ry26x
        case hy26x => (intro w' hSw; (try dsimp only at hSw); go_simp <;> with_reducible rfl)
        try simp only [Act.put, List.setIfInBounds_toArray, List.set_cons_zero, List.set_cons_succ]
        refine take_op (i := 5) (d := 17) (OP := Op.indexAddr 120 (Operand.tmp 16) (Operand.const (Value.int IntKind.i64 1))) (T := 0) (v := ?vy27x) rfl rfl rfl rfl (by kernel_rfl) (by kernel_rfl) (by kernel_rfl) (fun _ _ _ h => h) (by rfl) ?hy27x hHeld ?ry27x
        case hy27x => (intro w' hSw; (try dsimp only at hSw); go_simp <;> with_reducible rfl)
        try simp only [Act.put, List.setIfInBounds_toArray, List.set_cons_zero, List.set_cons_succ]
        refine take_op (i := 6) (d := 18) (OP := Op.load 9 (Operand.tmp 17)) (T := 9) (v := ?vy28x) rfl rfl rfl rfl (by kernel_rfl) (by kernel_rfl) (by kernel_rfl) (fun _ _ _ h => h) (by rfl) ?hy28x hHeld ?ry28x
        case hy28x => (intro w' hSw; (try dsimp only at hSw); go_simp <;> with_reducible rfl)
        try simp only [Act.put, List.setIfInBounds_toArray, List.set_cons_zero, List.set_cons_succ]
        refine take_op (i := 8) (d := 20) (OP := Op.move (Operand.tmp 4)) (T := 120) (v := ?vy29x) rfl rfl rfl rfl (by kernel_rfl) (by kernel_rfl) (by kernel_rfl) (fun _ _ _ h => h) (by rfl) ?hy29x hHeld ?ry29x
        case hy29x => (intro w' hSw; (try dsimp only at hSw); go_simp <;> with_reducible rfl)
        try simp only [Act.put, List.setIfInBounds_toArray, List.set_cons_zero, List.set_cons_succ]
        refine take_op (i := 9) (d := 21) (OP := Op.indexAddr 120 (Operand.tmp 20) (Operand.const (Value.int IntKind.i64 2))) (T := 0) (v := ?vy30x) rfl rfl rfl rfl (by kernel_rfl) (by kernel_rfl) (by kernel_rfl) (fun _ _ _ h => h) (by rfl) ?hy30x hHeld ?ry30x
        case hy30x => (intro w' hSw; (try dsimp only at hSw); go_simp <;> with_reducible rfl)
        try simp only [Act.put, List.setIfInBounds_toArray, List.set_cons_zero, List.set_cons_succ]
        refine take_op (i := 10) (d := 22) (OP := Op.load 9 (Operand.tmp 21)) (T := 9) (v := ?vy31x) rfl rfl rfl rfl (by kernel_rfl) (by kernel_rfl) (by kernel_rfl) (fun _ _ _ h => h) (by rfl) ?hy31x hHeld ?ry31x
        case hy31x => (intro w' hSw; (try dsimp only at hSw); go_simp <;> with_reducible rfl)
        try simp only [Act.put, List.setIfInBounds_toArray, List.set_cons_zero, List.set_cons_succ]
        refine take_op (i := 12) (d := 24) (OP := Op.move (Operand.tmp 4)) (T := 120) (v := ?vy32x) rfl rfl rfl rfl (by kernel_rfl) (by kernel_rfl) (by kernel_rfl) (fun _ _ _ h => h) (by rfl) ?hy32x hHeld ?ry32x
        case hy32x => (intro w' hSw; (try dsimp only at hSw); go_simp <;> with_reducible rfl)
        try simp only [Act.put, List.setIfInBounds_toArray, List.set_cons_zero, List.set_cons_succ]
        refine take_op (i := 13) (d := 25) (OP := Op.indexAddr 120 (Operand.tmp 24) (Operand.const (Value.int IntKind.i64 3))) (T := 0) (v := ?vy33x) rfl rfl rfl rfl (by kernel_rfl) (by kernel_rfl) (by kernel_rfl) (fun _ _ _ h => h) (by rfl) ?hy33x hHeld ?ry33x
        case hy33x => (intro w' hSw; (try dsimp only at hSw); go_simp <;> with_reducible rfl)
        try simp only [Act.put, List.setIfInBounds_toArray, List.set_cons_zero, List.set_cons_succ]
        refine take_op (i := 14) (d := 26) (OP := Op.load 9 (Operand.tmp 25)) (T := 9) (v := ?vy34x) rfl rfl rfl rfl (by kernel_rfl) (by kernel_rfl) (by kernel_rfl) (fun _ _ _ h => h) (by rfl) ?hy34x hHeld ?ry34x
        case hy34x => (intro w' hSw; (try dsimp only at hSw); go_simp <;> with_reducible rfl)
        try simp only [Act.put, List.setIfInBounds_toArray, List.set_cons_zero, List.set_cons_succ]
        refine take_op (i := 17) (d := 29) (OP := Op.move (Operand.tmp 4)) (T := 120) (v := ?vy35x) rfl rfl rfl rfl (by kernel_rfl) (by kernel_rfl) (by kernel_rfl) (fun _ _ _ h => h) (by rfl) ?hy35x hHeld ?ry35x
        case hy35x => (intro w' hSw; (try dsimp only at hSw); go_simp <;> with_reducible rfl)
        try simp only [Act.put, List.setIfInBounds_toArray, List.set_cons_zero, List.set_cons_succ]
        refine take_op (i := 18) (d := 30) (OP := Op.indexAddr 120 (Operand.tmp 29) (Operand.const (Value.int IntKind.i64 4))) (T := 0) (v := ?vy36x) rfl rfl rfl rfl (by kernel_rfl) (by kernel_rfl) (by kernel_rfl) (fun _ _ _ h => h) (by rfl) ?hy36x hHeld ?ry36x
        case hy36x => (intro w' hSw; (try dsimp only at hSw); go_simp <;> with_reducible rfl)
        try simp only [Act.put, List.setIfInBounds_toArray, List.set_cons_zero, List.set_cons_succ]
        refine take_op (i := 19) (d := 31) (OP := Op.load 9 (Operand.tmp 30)) (T := 9) (v := ?vy37x) rfl rfl rfl rfl (by kernel_rfl) (by kernel_rfl) (by kernel_rfl) (fun _ _ _ h => h) (by rfl) ?hy37x hHeld ?ry37x
        case hy37x => (intro w' hSw; (try dsimp only at hSw); go_simp <;> with_reducible rfl)
        try simp only [Act.put, List.setIfInBounds_toArray, List.set_cons_zero, List.set_cons_succ]
        have hSl15 : (W1.alloc (.cells #[.int .i64 0, .int .i64 0, .string ⟨#[]⟩, .int .i64 0, .int .i64 0] 27)).cell? ⟨ab, 0, none⟩ = some (.string a) ∧ (W1.alloc (.cells #[.int .i64 0, .int .i64 0, .string ⟨#[]⟩, .int .i64 0, .int .i64 0] 27)).cell? ⟨ab, 1, none⟩ = some (.string b) ∧ (W1.alloc (.cells #[.int .i64 0, .int .i64 0, .string ⟨#[]⟩, .int .i64 0, .int .i64 0] 27)).cell? ⟨ab, 2, none⟩ = some (.string c) ∧ (W1.alloc (.cells #[.int .i64 0, .int .i64 0, .string ⟨#[]⟩, .int .i64 0, .int .i64 0] 27)).cell? ⟨ab, 3, none⟩ = some (.string d) ∧ (W1.alloc (.cells #[.int .i64 0, .int .i64 0, .string ⟨#[]⟩, .int .i64 0, .int .i64 0] 27)).cell? ⟨ab, 4, none⟩ = some (.string f) := ⟨kept (below_new W1 (.cells #[.int .i64 0, .int .i64 0, .string ⟨#[]⟩, .int .i64 0, .int .i64 0] 27)) hHeld.1, kept (below_new W1 (.cells #[.int .i64 0, .int .i64 0, .string ⟨#[]⟩, .int .i64 0, .int .i64 0] 27)) hHeld.2.1, kept (below_new W1 (.cells #[.int .i64 0, .int .i64 0, .string ⟨#[]⟩, .int .i64 0, .int .i64 0] 27)) hHeld.2.2.1, kept (below_new W1 (.cells #[.int .i64 0, .int .i64 0, .string ⟨#[]⟩, .int .i64 0, .int .i64 0] 27)) hHeld.2.2.2.1, kept (below_new W1 (.cells #[.int .i64 0, .int .i64 0, .string ⟨#[]⟩, .int .i64 0, .int .i64 0] 27)) hHeld.2.2.2.2⟩
        refine call_turn_op (i := 3) (di := 15) (OPi := Op.call { callee := Callee.value (Operand.func 94), args := #[Operand.tmp 14], argTypes := #[9] }) (Ti := 2) (j := 22) (dj := 5) (OPj := Op.alloc 27) (Tj := 0) (f := 94) (args := #[.string a]) (u := .pointer (some ⟨W1.heap.size, 0, none⟩)) (w' := W1.alloc (.cells #[.int .i64 0, .int .i64 0, .string ⟨#[]⟩, .int .i64 0, .int .i64 0] 27)) rfl rfl rfl rfl rfl rfl rfl rfl (by kernel_rfl) (by rfl) (by rfl) (by go_simp) exec_alloc27 hSl15 ?_ ?_
        · refine (h94a _ hD).mono ?_
          rintro e v15 ⟨rfl, bb⟩
          have hS2 : v15.cell? ⟨ab, 0, none⟩ = some (.string a) ∧ v15.cell? ⟨ab, 1, none⟩ = some (.string b) ∧ v15.cell? ⟨ab, 2, none⟩ = some (.string c) ∧ v15.cell? ⟨ab, 3, none⟩ = some (.string d) ∧ v15.cell? ⟨ab, 4, none⟩ = some (.string f) := ⟨kept bb hHeld.1, kept bb hHeld.2.1, kept bb hHeld.2.2.1, kept bb hHeld.2.2.2.1, kept bb hHeld.2.2.2.2⟩
          clear hSl15
          replace hD := hD.trans (bb.mono hD.size)
          replace hQ := hQ.trans (bb.mono hz)
          replace hz := Nat.le_trans hz bb.size
          replace haz := Nat.lt_of_lt_of_le haz bb.size
          refine ⟨_, rfl, hS2, ?_⟩
          replace hHeld := hS2
          clear hS2 bb
          try simp only [Act.put, List.setIfInBounds_toArray, List.set_cons_zero, List.set_cons_succ]
          have hSl16 : (v15.alloc (.cells #[.int .i64 0, .int .i64 0, .string ⟨#[]⟩, .int .i64 0, .int .i64 0] 27)).cell? ⟨ab, 0, none⟩ = some (.string a) ∧ (v15.alloc (.cells #[.int .i64 0, .int .i64 0, .string ⟨#[]⟩, .int .i64 0, .int .i64 0] 27)).cell? ⟨ab, 1, none⟩ = some (.string b) ∧ (v15.alloc (.cells #[.int .i64 0, .int .i64 0, .string ⟨#[]⟩, .int .i64 0, .int .i64 0] 27)).cell? ⟨ab, 2, none⟩ = some (.string c) ∧ (v15.alloc (.cells #[.int .i64 0, .int .i64 0, .string ⟨#[]⟩, .int .i64 0, .int .i64 0] 27)).cell? ⟨ab, 3, none⟩ = some (.string d) ∧ (v15.alloc (.cells #[.int .i64 0, .int .i64 0, .string ⟨#[]⟩, .int .i64 0, .int .i64 0] 27)).cell? ⟨ab, 4, none⟩ = some (.string f) := ⟨kept (below_new v15 (.cells #[.int .i64 0, .int .i64 0, .string ⟨#[]⟩, .int .i64 0, .int .i64 0] 27)) hHeld.1, kept (below_new v15 (.cells #[.int .i64 0, .int .i64 0, .string ⟨#[]⟩, .int .i64 0, .int .i64 0] 27)) hHeld.2.1, kept (below_new v15 (.cells #[.int .i64 0, .int .i64 0, .string ⟨#[]⟩, .int .i64 0, .int .i64 0] 27)) hHeld.2.2.1, kept (below_new v15 (.cells #[.int .i64 0, .int .i64 0, .string ⟨#[]⟩, .int .i64 0, .int .i64 0] 27)) hHeld.2.2.2.1, kept (below_new v15 (.cells #[.int .i64 0, .int .i64 0, .string ⟨#[]⟩, .int .i64 0, .int .i64 0] 27)) hHeld.2.2.2.2⟩
          refine call_turn_op (i := 7) (di := 19) (OPi := Op.call { callee := Callee.value (Operand.func 94), args := #[Operand.tmp 18], argTypes := #[9] }) (Ti := 2) (j := 22) (dj := 5) (OPj := Op.alloc 27) (Tj := 0) (f := 94) (args := #[.string b]) (u := .pointer (some ⟨v15.heap.size, 0, none⟩)) (w' := v15.alloc (.cells #[.int .i64 0, .int .i64 0, .string ⟨#[]⟩, .int .i64 0, .int .i64 0] 27)) rfl rfl rfl rfl rfl rfl rfl rfl (by kernel_rfl) (by rfl) (by rfl) (by go_simp) exec_alloc27 hSl16 ?_ ?_
          · refine (h94b _ hD).mono ?_
            rintro e v16 ⟨rfl, bb⟩
            have hS2 : v16.cell? ⟨ab, 0, none⟩ = some (.string a) ∧ v16.cell? ⟨ab, 1, none⟩ = some (.string b) ∧ v16.cell? ⟨ab, 2, none⟩ = some (.string c) ∧ v16.cell? ⟨ab, 3, none⟩ = some (.string d) ∧ v16.cell? ⟨ab, 4, none⟩ = some (.string f) := ⟨kept bb hHeld.1, kept bb hHeld.2.1, kept bb hHeld.2.2.1, kept bb hHeld.2.2.2.1, kept bb hHeld.2.2.2.2⟩
            clear hSl16
            replace hD := hD.trans (bb.mono hD.size)
            replace hQ := hQ.trans (bb.mono hz)
            replace hz := Nat.le_trans hz bb.size
            replace haz := Nat.lt_of_lt_of_le haz bb.size
            refine ⟨_, rfl, hS2, ?_⟩
            replace hHeld := hS2
            clear hS2 bb
            try simp only [Act.put, List.setIfInBounds_toArray, List.set_cons_zero, List.set_cons_succ]
            refine take_op (i := 11) (d := 23) (OP := Op.build 23 #[(0, Operand.tmp 19), (1, Operand.tmp 22)]) (T := 23) (v := ?vy38x) rfl rfl rfl rfl (by kernel_rfl) (by kernel_rfl) (by kernel_rfl) (fun _ _ _ h => h) (by rfl) ?hy38x hHeld ?ry38x
            case hy38x => (intro w' hSw; (try dsimp only at hSw); go_simp <;> with_reducible rfl)
            try simp only [Act.put, List.setIfInBounds_toArray, List.set_cons_zero, List.set_cons_succ]
            have hSl17 : (v16.alloc (.cells #[.int .i64 0, .int .i64 0, .string ⟨#[]⟩, .int .i64 0, .int .i64 0] 27)).cell? ⟨ab, 0, none⟩ = some (.string a) ∧ (v16.alloc (.cells #[.int .i64 0, .int .i64 0, .string ⟨#[]⟩, .int .i64 0, .int .i64 0] 27)).cell? ⟨ab, 1, none⟩ = some (.string b) ∧ (v16.alloc (.cells #[.int .i64 0, .int .i64 0, .string ⟨#[]⟩, .int .i64 0, .int .i64 0] 27)).cell? ⟨ab, 2, none⟩ = some (.string c) ∧ (v16.alloc (.cells #[.int .i64 0, .int .i64 0, .string ⟨#[]⟩, .int .i64 0, .int .i64 0] 27)).cell? ⟨ab, 3, none⟩ = some (.string d) ∧ (v16.alloc (.cells #[.int .i64 0, .int .i64 0, .string ⟨#[]⟩, .int .i64 0, .int .i64 0] 27)).cell? ⟨ab, 4, none⟩ = some (.string f) := ⟨kept (below_new v16 (.cells #[.int .i64 0, .int .i64 0, .string ⟨#[]⟩, .int .i64 0, .int .i64 0] 27)) hHeld.1, kept (below_new v16 (.cells #[.int .i64 0, .int .i64 0, .string ⟨#[]⟩, .int .i64 0, .int .i64 0] 27)) hHeld.2.1, kept (below_new v16 (.cells #[.int .i64 0, .int .i64 0, .string ⟨#[]⟩, .int .i64 0, .int .i64 0] 27)) hHeld.2.2.1, kept (below_new v16 (.cells #[.int .i64 0, .int .i64 0, .string ⟨#[]⟩, .int .i64 0, .int .i64 0] 27)) hHeld.2.2.2.1, kept (below_new v16 (.cells #[.int .i64 0, .int .i64 0, .string ⟨#[]⟩, .int .i64 0, .int .i64 0] 27)) hHeld.2.2.2.2⟩
            refine call_turn_op (i := 15) (di := 27) (OPi := Op.call { callee := Callee.value (Operand.func 94), args := #[Operand.tmp 26], argTypes := #[9] }) (Ti := 2) (j := 22) (dj := 5) (OPj := Op.alloc 27) (Tj := 0) (f := 94) (args := #[.string d]) (u := .pointer (some ⟨v16.heap.size, 0, none⟩)) (w' := v16.alloc (.cells #[.int .i64 0, .int .i64 0, .string ⟨#[]⟩, .int .i64 0, .int .i64 0] 27)) rfl rfl rfl rfl rfl rfl rfl rfl (by kernel_rfl) (by rfl) (by rfl) (by go_simp) exec_alloc27 hSl17 ?_ ?_
            · refine (h94d _ hD).mono ?_
              rintro e v17 ⟨rfl, bb⟩
              have hS2 : v17.cell? ⟨ab, 0, none⟩ = some (.string a) ∧ v17.cell? ⟨ab, 1, none⟩ = some (.string b) ∧ v17.cell? ⟨ab, 2, none⟩ = some (.string c) ∧ v17.cell? ⟨ab, 3, none⟩ = some (.string d) ∧ v17.cell? ⟨ab, 4, none⟩ = some (.string f) := ⟨kept bb hHeld.1, kept bb hHeld.2.1, kept bb hHeld.2.2.1, kept bb hHeld.2.2.2.1, kept bb hHeld.2.2.2.2⟩
              clear hSl17
              replace hD := hD.trans (bb.mono hD.size)
              replace hQ := hQ.trans (bb.mono hz)
              replace hz := Nat.le_trans hz bb.size
              replace haz := Nat.lt_of_lt_of_le haz bb.size
              refine ⟨_, rfl, hS2, ?_⟩
              replace hHeld := hS2
              clear hS2 bb
              try simp only [Act.put, List.setIfInBounds_toArray, List.set_cons_zero, List.set_cons_succ]
              refine take_op (i := 16) (d := 28) (OP := Op.build 25 #[(0, Operand.tmp 23), (1, Operand.tmp 27)]) (T := 25) (v := ?vy39x) rfl rfl rfl rfl (by kernel_rfl) (by kernel_rfl) (by kernel_rfl) (fun _ _ _ h => h) (by rfl) ?hy39x hHeld ?ry39x
              case hy39x => (intro w' hSw; (try dsimp only at hSw); go_simp <;> with_reducible rfl)
              try simp only [Act.put, List.setIfInBounds_toArray, List.set_cons_zero, List.set_cons_succ]
              have hSl18 : (v17.alloc (.cells #[.int .i64 0, .int .i64 0, .string ⟨#[]⟩, .int .i64 0, .int .i64 0] 27)).cell? ⟨ab, 0, none⟩ = some (.string a) ∧ (v17.alloc (.cells #[.int .i64 0, .int .i64 0, .string ⟨#[]⟩, .int .i64 0, .int .i64 0] 27)).cell? ⟨ab, 1, none⟩ = some (.string b) ∧ (v17.alloc (.cells #[.int .i64 0, .int .i64 0, .string ⟨#[]⟩, .int .i64 0, .int .i64 0] 27)).cell? ⟨ab, 2, none⟩ = some (.string c) ∧ (v17.alloc (.cells #[.int .i64 0, .int .i64 0, .string ⟨#[]⟩, .int .i64 0, .int .i64 0] 27)).cell? ⟨ab, 3, none⟩ = some (.string d) ∧ (v17.alloc (.cells #[.int .i64 0, .int .i64 0, .string ⟨#[]⟩, .int .i64 0, .int .i64 0] 27)).cell? ⟨ab, 4, none⟩ = some (.string f) := ⟨kept (below_new v17 (.cells #[.int .i64 0, .int .i64 0, .string ⟨#[]⟩, .int .i64 0, .int .i64 0] 27)) hHeld.1, kept (below_new v17 (.cells #[.int .i64 0, .int .i64 0, .string ⟨#[]⟩, .int .i64 0, .int .i64 0] 27)) hHeld.2.1, kept (below_new v17 (.cells #[.int .i64 0, .int .i64 0, .string ⟨#[]⟩, .int .i64 0, .int .i64 0] 27)) hHeld.2.2.1, kept (below_new v17 (.cells #[.int .i64 0, .int .i64 0, .string ⟨#[]⟩, .int .i64 0, .int .i64 0] 27)) hHeld.2.2.2.1, kept (below_new v17 (.cells #[.int .i64 0, .int .i64 0, .string ⟨#[]⟩, .int .i64 0, .int .i64 0] 27)) hHeld.2.2.2.2⟩
              refine call_turn_op (i := 20) (di := 32) (OPi := Op.call { callee := Callee.value (Operand.func 94), args := #[Operand.tmp 31], argTypes := #[9] }) (Ti := 2) (j := 22) (dj := 5) (OPj := Op.alloc 27) (Tj := 0) (f := 94) (args := #[.string f]) (u := .pointer (some ⟨v17.heap.size, 0, none⟩)) (w' := v17.alloc (.cells #[.int .i64 0, .int .i64 0, .string ⟨#[]⟩, .int .i64 0, .int .i64 0] 27)) rfl rfl rfl rfl rfl rfl rfl rfl (by kernel_rfl) (by rfl) (by rfl) (by go_simp) exec_alloc27 hSl18 ?_ ?_
              · refine (h94f _ hD).mono ?_
                rintro e v18 ⟨rfl, bb⟩
                have hS2 : v18.cell? ⟨ab, 0, none⟩ = some (.string a) ∧ v18.cell? ⟨ab, 1, none⟩ = some (.string b) ∧ v18.cell? ⟨ab, 2, none⟩ = some (.string c) ∧ v18.cell? ⟨ab, 3, none⟩ = some (.string d) ∧ v18.cell? ⟨ab, 4, none⟩ = some (.string f) := ⟨kept bb hHeld.1, kept bb hHeld.2.1, kept bb hHeld.2.2.1, kept bb hHeld.2.2.2.1, kept bb hHeld.2.2.2.2⟩
                clear hSl18
                replace hD := hD.trans (bb.mono hD.size)
                replace hQ := hQ.trans (bb.mono hz)
                replace hz := Nat.le_trans hz bb.size
                replace haz := Nat.lt_of_lt_of_le haz bb.size
                refine ⟨_, rfl, hS2, ?_⟩
                replace hHeld := hS2
                clear hS2 bb
                try simp only [Act.put, List.setIfInBounds_toArray, List.set_cons_zero, List.set_cons_succ]
                refine take_op (i := 21) (d := 33) (OP := Op.build 27 #[(0, Operand.tmp 15), (1, Operand.tmp 28), (2, Operand.tmp 32)]) (T := 27) (v := ?vy40x) rfl rfl rfl rfl (by kernel_rfl) (by kernel_rfl) (by kernel_rfl) (fun _ _ _ h => h) (by rfl) ?hy40x hHeld ?ry40x
                case hy40x => (intro w' hSw; (try dsimp only at hSw); go_simp <;> with_reducible rfl)
                try simp only [Act.put, List.setIfInBounds_toArray, List.set_cons_zero, List.set_cons_succ]
                have hSl19 : (v18.alloc (.cells #[.int .i64 0, .int .i64 0, .string ⟨#[]⟩, .int .i64 0, .int .i64 0] 27)).cell? ⟨ab, 0, none⟩ = some (.string a) ∧ (v18.alloc (.cells #[.int .i64 0, .int .i64 0, .string ⟨#[]⟩, .int .i64 0, .int .i64 0] 27)).cell? ⟨ab, 1, none⟩ = some (.string b) ∧ (v18.alloc (.cells #[.int .i64 0, .int .i64 0, .string ⟨#[]⟩, .int .i64 0, .int .i64 0] 27)).cell? ⟨ab, 2, none⟩ = some (.string c) ∧ (v18.alloc (.cells #[.int .i64 0, .int .i64 0, .string ⟨#[]⟩, .int .i64 0, .int .i64 0] 27)).cell? ⟨ab, 3, none⟩ = some (.string d) ∧ (v18.alloc (.cells #[.int .i64 0, .int .i64 0, .string ⟨#[]⟩, .int .i64 0, .int .i64 0] 27)).cell? ⟨ab, 4, none⟩ = some (.string f) := ⟨kept (below_new v18 (.cells #[.int .i64 0, .int .i64 0, .string ⟨#[]⟩, .int .i64 0, .int .i64 0] 27)) hHeld.1, kept (below_new v18 (.cells #[.int .i64 0, .int .i64 0, .string ⟨#[]⟩, .int .i64 0, .int .i64 0] 27)) hHeld.2.1, kept (below_new v18 (.cells #[.int .i64 0, .int .i64 0, .string ⟨#[]⟩, .int .i64 0, .int .i64 0] 27)) hHeld.2.2.1, kept (below_new v18 (.cells #[.int .i64 0, .int .i64 0, .string ⟨#[]⟩, .int .i64 0, .int .i64 0] 27)) hHeld.2.2.2.1, kept (below_new v18 (.cells #[.int .i64 0, .int .i64 0, .string ⟨#[]⟩, .int .i64 0, .int .i64 0] 27)) hHeld.2.2.2.2⟩
                refine turn_op (i := 22) (d := 5) (OP := Op.alloc 27) (T := 0) (v := .pointer (some ⟨v18.heap.size, 0, none⟩)) (w' := v18.alloc (.cells #[.int .i64 0, .int .i64 0, .string ⟨#[]⟩, .int .i64 0, .int .i64 0] 27)) rfl rfl rfl rfl (by kernel_rfl) (by rfl) (exec_alloc27) hSl19 ?_
                replace hHeld := hSl19
                try simp only [Act.put, List.setIfInBounds_toArray, List.set_cons_zero, List.set_cons_succ]
                have mP := heap_alloc_new v18 (.cells #[.int .i64 0, .int .i64 0, .string ⟨#[]⟩, .int .i64 0, .int .i64 0] 27)
                replace hD := hD.alloc hD.size (.cells #[.int .i64 0, .int .i64 0, .string ⟨#[]⟩, .int .i64 0, .int .i64 0] 27)
                replace hQ := hQ.alloc hz (.cells #[.int .i64 0, .int .i64 0, .string ⟨#[]⟩, .int .i64 0, .int .i64 0] 27)
                have hp : w.heap.size + 1 ≤ v18.heap.size := hz
                have hpz : v18.heap.size < (v18.alloc (.cells #[.int .i64 0, .int .i64 0, .string ⟨#[]⟩, .int .i64 0, .int .i64 0] 27)).heap.size := by simp
                replace hz : w.heap.size + 1 ≤ (v18.alloc (.cells #[.int .i64 0, .int .i64 0, .string ⟨#[]⟩, .int .i64 0, .int .i64 0] 27)).heap.size := by simp; omega
                clear hSl19
                have hab : ab < v18.heap.size := haz
                replace haz : ab < (v18.alloc (.cells #[.int .i64 0, .int .i64 0, .string ⟨#[]⟩, .int .i64 0, .int .i64 0] 27)).heap.size := by simp; omega
                generalize v18.heap.size = Pn at mP hp hpz hab ⊢
                generalize v18.alloc (.cells #[.int .i64 0, .int .i64 0, .string ⟨#[]⟩, .int .i64 0, .int .i64 0] 27) = x19 at hHeld mP hD hQ hz hpz haz ⊢
                obtain ⟨z0, z1, z2, z3, z4, zf0, zf1, zf2, zf3, zf4⟩ := blk5 mP
                have hne : Pn ≠ ab := by omega
                have hx8 : (((((x19.setCell ⟨Pn, 0, none⟩ (.int .i64 GA)).setCell ⟨Pn, 1, none⟩ (.int .i64 GB)).setCell ⟨Pn, 2, none⟩ (.string c)).setCell ⟨Pn, 3, none⟩ (.int .i64 GD)).setCell ⟨Pn, 4, none⟩ (.int .i64 GE)).cell? ⟨ab, 0, none⟩ = some (.string a) ∧ (((((x19.setCell ⟨Pn, 0, none⟩ (.int .i64 GA)).setCell ⟨Pn, 1, none⟩ (.int .i64 GB)).setCell ⟨Pn, 2, none⟩ (.string c)).setCell ⟨Pn, 3, none⟩ (.int .i64 GD)).setCell ⟨Pn, 4, none⟩ (.int .i64 GE)).cell? ⟨ab, 1, none⟩ = some (.string b) ∧ (((((x19.setCell ⟨Pn, 0, none⟩ (.int .i64 GA)).setCell ⟨Pn, 1, none⟩ (.int .i64 GB)).setCell ⟨Pn, 2, none⟩ (.string c)).setCell ⟨Pn, 3, none⟩ (.int .i64 GD)).setCell ⟨Pn, 4, none⟩ (.int .i64 GE)).cell? ⟨ab, 2, none⟩ = some (.string c) ∧ (((((x19.setCell ⟨Pn, 0, none⟩ (.int .i64 GA)).setCell ⟨Pn, 1, none⟩ (.int .i64 GB)).setCell ⟨Pn, 2, none⟩ (.string c)).setCell ⟨Pn, 3, none⟩ (.int .i64 GD)).setCell ⟨Pn, 4, none⟩ (.int .i64 GE)).cell? ⟨ab, 3, none⟩ = some (.string d) ∧ (((((x19.setCell ⟨Pn, 0, none⟩ (.int .i64 GA)).setCell ⟨Pn, 1, none⟩ (.int .i64 GB)).setCell ⟨Pn, 2, none⟩ (.string c)).setCell ⟨Pn, 3, none⟩ (.int .i64 GD)).setCell ⟨Pn, 4, none⟩ (.int .i64 GE)).cell? ⟨ab, 4, none⟩ = some (.string f) := ⟨by rw [set5_other hne]; exact hHeld.1, by rw [set5_other hne]; exact hHeld.2.1, by rw [set5_other hne]; exact hHeld.2.2.1, by rw [set5_other hne]; exact hHeld.2.2.2.1, by rw [set5_other hne]; exact hHeld.2.2.2.2⟩
                refine skip_op (i := 23) (OP := Op.store 27 (Operand.tmp 5) (Operand.tmp 33)) (T := 0) (w' := (((((x19.setCell ⟨Pn, 0, none⟩ (.int .i64 GA)).setCell ⟨Pn, 1, none⟩ (.int .i64 GB)).setCell ⟨Pn, 2, none⟩ (.string c)).setCell ⟨Pn, 3, none⟩ (.int .i64 GD)).setCell ⟨Pn, 4, none⟩ (.int .i64 GE))) rfl rfl rfl rfl (by kernel_rfl) (by rfl) (by go_simp) ⟨hx8, ?_⟩
                refine wpAnyH_done (by kernel_rfl) ?_ _
                go_wp2
                go_meet
                exact ⟨Pn, rfl, hide ⟨set5 mP, bel5 (by omega) hD, bel5 hp hQ, by simp only [setCell_size]; omega⟩⟩
              · try simp only [Act.put, List.setIfInBounds_toArray, List.set_cons_zero, List.set_cons_succ]
                replace hHeld := hSl18
                have mP := heap_alloc_new v17 (.cells #[.int .i64 0, .int .i64 0, .string ⟨#[]⟩, .int .i64 0, .int .i64 0] 27)
                replace hD := hD.alloc hD.size (.cells #[.int .i64 0, .int .i64 0, .string ⟨#[]⟩, .int .i64 0, .int .i64 0] 27)
                replace hQ := hQ.alloc hz (.cells #[.int .i64 0, .int .i64 0, .string ⟨#[]⟩, .int .i64 0, .int .i64 0] 27)
                have hp : w.heap.size + 1 ≤ v17.heap.size := hz
                have hpz : v17.heap.size < (v17.alloc (.cells #[.int .i64 0, .int .i64 0, .string ⟨#[]⟩, .int .i64 0, .int .i64 0] 27)).heap.size := by simp
                replace hz : w.heap.size + 1 ≤ (v17.alloc (.cells #[.int .i64 0, .int .i64 0, .string ⟨#[]⟩, .int .i64 0, .int .i64 0] 27)).heap.size := by simp; omega
                clear hSl18
                have hab : ab < v17.heap.size := haz
                replace haz : ab < (v17.alloc (.cells #[.int .i64 0, .int .i64 0, .string ⟨#[]⟩, .int .i64 0, .int .i64 0] 27)).heap.size := by simp; omega
                generalize v17.heap.size = Pn at mP hp hpz hab ⊢
                generalize v17.alloc (.cells #[.int .i64 0, .int .i64 0, .string ⟨#[]⟩, .int .i64 0, .int .i64 0] 27) = x18 at hHeld mP hD hQ hz hpz haz ⊢
                refine call_op (i := 20) (d := 32) (OP := Op.call { callee := Callee.value (Operand.func 94), args := #[Operand.tmp 31], argTypes := #[9] }) (T := 2) (f := 94) (args := #[.string f]) rfl rfl rfl rfl (by kernel_rfl) (by rfl) (by go_simp) ?_
                refine (h94f _ hD).mono ?_
                rintro e v21 ⟨rfl, bb⟩
                have hS2 : v21.cell? ⟨ab, 0, none⟩ = some (.string a) ∧ v21.cell? ⟨ab, 1, none⟩ = some (.string b) ∧ v21.cell? ⟨ab, 2, none⟩ = some (.string c) ∧ v21.cell? ⟨ab, 3, none⟩ = some (.string d) ∧ v21.cell? ⟨ab, 4, none⟩ = some (.string f) := ⟨kept bb hHeld.1, kept bb hHeld.2.1, kept bb hHeld.2.2.1, kept bb hHeld.2.2.2.1, kept bb hHeld.2.2.2.2⟩
                replace hD := hD.trans (bb.mono hD.size)
                replace hQ := hQ.trans (bb.mono hz)
                replace hz := Nat.le_trans hz bb.size
                replace haz := Nat.lt_of_lt_of_le haz bb.size
                replace mP := (bb.block _ hpz).trans mP
                replace hpz := Nat.lt_of_lt_of_le hpz bb.size
                clear bb
                refine ⟨_, rfl, hS2, ?_⟩
                replace hHeld := hS2
                try simp only [Act.put, List.setIfInBounds_toArray, List.set_cons_zero, List.set_cons_succ]
                clear hS2
                refine take_op (i := 21) (d := 33) (OP := Op.build 27 #[(0, Operand.tmp 15), (1, Operand.tmp 28), (2, Operand.tmp 32)]) (T := 27) (v := ?vy41x) rfl rfl rfl rfl (by kernel_rfl) (by kernel_rfl) (by kernel_rfl) (fun _ _ _ h => h) (by rfl) ?hy41x hHeld ?ry41x
                case hy41x => (intro w' hSw; (try dsimp only at hSw); go_simp <;> with_reducible rfl)
                try simp only [Act.put, List.setIfInBounds_toArray, List.set_cons_zero, List.set_cons_succ]
                obtain ⟨z0, z1, z2, z3, z4, zf0, zf1, zf2, zf3, zf4⟩ := blk5 mP
                have hne : Pn ≠ ab := by omega
                have hx8 : (((((v21.setCell ⟨Pn, 0, none⟩ (.int .i64 GA)).setCell ⟨Pn, 1, none⟩ (.int .i64 GB)).setCell ⟨Pn, 2, none⟩ (.string c)).setCell ⟨Pn, 3, none⟩ (.int .i64 GD)).setCell ⟨Pn, 4, none⟩ (.int .i64 GE)).cell? ⟨ab, 0, none⟩ = some (.string a) ∧ (((((v21.setCell ⟨Pn, 0, none⟩ (.int .i64 GA)).setCell ⟨Pn, 1, none⟩ (.int .i64 GB)).setCell ⟨Pn, 2, none⟩ (.string c)).setCell ⟨Pn, 3, none⟩ (.int .i64 GD)).setCell ⟨Pn, 4, none⟩ (.int .i64 GE)).cell? ⟨ab, 1, none⟩ = some (.string b) ∧ (((((v21.setCell ⟨Pn, 0, none⟩ (.int .i64 GA)).setCell ⟨Pn, 1, none⟩ (.int .i64 GB)).setCell ⟨Pn, 2, none⟩ (.string c)).setCell ⟨Pn, 3, none⟩ (.int .i64 GD)).setCell ⟨Pn, 4, none⟩ (.int .i64 GE)).cell? ⟨ab, 2, none⟩ = some (.string c) ∧ (((((v21.setCell ⟨Pn, 0, none⟩ (.int .i64 GA)).setCell ⟨Pn, 1, none⟩ (.int .i64 GB)).setCell ⟨Pn, 2, none⟩ (.string c)).setCell ⟨Pn, 3, none⟩ (.int .i64 GD)).setCell ⟨Pn, 4, none⟩ (.int .i64 GE)).cell? ⟨ab, 3, none⟩ = some (.string d) ∧ (((((v21.setCell ⟨Pn, 0, none⟩ (.int .i64 GA)).setCell ⟨Pn, 1, none⟩ (.int .i64 GB)).setCell ⟨Pn, 2, none⟩ (.string c)).setCell ⟨Pn, 3, none⟩ (.int .i64 GD)).setCell ⟨Pn, 4, none⟩ (.int .i64 GE)).cell? ⟨ab, 4, none⟩ = some (.string f) := ⟨by rw [set5_other hne]; exact hHeld.1, by rw [set5_other hne]; exact hHeld.2.1, by rw [set5_other hne]; exact hHeld.2.2.1, by rw [set5_other hne]; exact hHeld.2.2.2.1, by rw [set5_other hne]; exact hHeld.2.2.2.2⟩
                refine skip_op (i := 23) (OP := Op.store 27 (Operand.tmp 5) (Operand.tmp 33)) (T := 0) (w' := (((((v21.setCell ⟨Pn, 0, none⟩ (.int .i64 GA)).setCell ⟨Pn, 1, none⟩ (.int .i64 GB)).setCell ⟨Pn, 2, none⟩ (.string c)).setCell ⟨Pn, 3, none⟩ (.int .i64 GD)).setCell ⟨Pn, 4, none⟩ (.int .i64 GE))) rfl rfl rfl rfl (by kernel_rfl) (by rfl) (by go_simp) ⟨hx8, ?_⟩
                refine wpAnyH_done (by kernel_rfl) ?_ _
                go_wp2
                go_meet
                exact ⟨Pn, rfl, hide ⟨set5 mP, bel5 (by omega) hD, bel5 hp hQ, by simp only [setCell_size]; omega⟩⟩
            · try simp only [Act.put, List.setIfInBounds_toArray, List.set_cons_zero, List.set_cons_succ]
              replace hHeld := hSl17
              have mP := heap_alloc_new v16 (.cells #[.int .i64 0, .int .i64 0, .string ⟨#[]⟩, .int .i64 0, .int .i64 0] 27)
              replace hD := hD.alloc hD.size (.cells #[.int .i64 0, .int .i64 0, .string ⟨#[]⟩, .int .i64 0, .int .i64 0] 27)
              replace hQ := hQ.alloc hz (.cells #[.int .i64 0, .int .i64 0, .string ⟨#[]⟩, .int .i64 0, .int .i64 0] 27)
              have hp : w.heap.size + 1 ≤ v16.heap.size := hz
              have hpz : v16.heap.size < (v16.alloc (.cells #[.int .i64 0, .int .i64 0, .string ⟨#[]⟩, .int .i64 0, .int .i64 0] 27)).heap.size := by simp
              replace hz : w.heap.size + 1 ≤ (v16.alloc (.cells #[.int .i64 0, .int .i64 0, .string ⟨#[]⟩, .int .i64 0, .int .i64 0] 27)).heap.size := by simp; omega
              clear hSl17
              have hab : ab < v16.heap.size := haz
              replace haz : ab < (v16.alloc (.cells #[.int .i64 0, .int .i64 0, .string ⟨#[]⟩, .int .i64 0, .int .i64 0] 27)).heap.size := by simp; omega
              generalize v16.heap.size = Pn at mP hp hpz hab ⊢
              generalize v16.alloc (.cells #[.int .i64 0, .int .i64 0, .string ⟨#[]⟩, .int .i64 0, .int .i64 0] 27) = x17 at hHeld mP hD hQ hz hpz haz ⊢
              refine call_op (i := 15) (d := 27) (OP := Op.call { callee := Callee.value (Operand.func 94), args := #[Operand.tmp 26], argTypes := #[9] }) (T := 2) (f := 94) (args := #[.string d]) rfl rfl rfl rfl (by kernel_rfl) (by rfl) (by go_simp) ?_
              refine (h94d _ hD).mono ?_
              rintro e v23 ⟨rfl, bb⟩
              have hS2 : v23.cell? ⟨ab, 0, none⟩ = some (.string a) ∧ v23.cell? ⟨ab, 1, none⟩ = some (.string b) ∧ v23.cell? ⟨ab, 2, none⟩ = some (.string c) ∧ v23.cell? ⟨ab, 3, none⟩ = some (.string d) ∧ v23.cell? ⟨ab, 4, none⟩ = some (.string f) := ⟨kept bb hHeld.1, kept bb hHeld.2.1, kept bb hHeld.2.2.1, kept bb hHeld.2.2.2.1, kept bb hHeld.2.2.2.2⟩
              replace hD := hD.trans (bb.mono hD.size)
              replace hQ := hQ.trans (bb.mono hz)
              replace hz := Nat.le_trans hz bb.size
              replace haz := Nat.lt_of_lt_of_le haz bb.size
              replace mP := (bb.block _ hpz).trans mP
              replace hpz := Nat.lt_of_lt_of_le hpz bb.size
              clear bb
              refine ⟨_, rfl, hS2, ?_⟩
              replace hHeld := hS2
              try simp only [Act.put, List.setIfInBounds_toArray, List.set_cons_zero, List.set_cons_succ]
              clear hS2
              refine take_op (i := 16) (d := 28) (OP := Op.build 25 #[(0, Operand.tmp 23), (1, Operand.tmp 27)]) (T := 25) (v := ?vy42x) rfl rfl rfl rfl (by kernel_rfl) (by kernel_rfl) (by kernel_rfl) (fun _ _ _ h => h) (by rfl) ?hy42x hHeld ?ry42x
              case hy42x => (intro w' hSw; (try dsimp only at hSw); go_simp <;> with_reducible rfl)
              try simp only [Act.put, List.setIfInBounds_toArray, List.set_cons_zero, List.set_cons_succ]
              refine call_op (i := 20) (d := 32) (OP := Op.call { callee := Callee.value (Operand.func 94), args := #[Operand.tmp 31], argTypes := #[9] }) (T := 2) (f := 94) (args := #[.string f]) rfl rfl rfl rfl (by kernel_rfl) (by rfl) (by go_simp) ?_
              refine (h94f _ hD).mono ?_
              rintro e v24 ⟨rfl, bb⟩
              have hS2 : v24.cell? ⟨ab, 0, none⟩ = some (.string a) ∧ v24.cell? ⟨ab, 1, none⟩ = some (.string b) ∧ v24.cell? ⟨ab, 2, none⟩ = some (.string c) ∧ v24.cell? ⟨ab, 3, none⟩ = some (.string d) ∧ v24.cell? ⟨ab, 4, none⟩ = some (.string f) := ⟨kept bb hHeld.1, kept bb hHeld.2.1, kept bb hHeld.2.2.1, kept bb hHeld.2.2.2.1, kept bb hHeld.2.2.2.2⟩
              replace hD := hD.trans (bb.mono hD.size)
              replace hQ := hQ.trans (bb.mono hz)
              replace hz := Nat.le_trans hz bb.size
              replace haz := Nat.lt_of_lt_of_le haz bb.size
              replace mP := (bb.block _ hpz).trans mP
              replace hpz := Nat.lt_of_lt_of_le hpz bb.size
              clear bb
              refine ⟨_, rfl, hS2, ?_⟩
              replace hHeld := hS2
              try simp only [Act.put, List.setIfInBounds_toArray, List.set_cons_zero, List.set_cons_succ]
              clear hS2
              refine take_op (i := 21) (d := 33) (OP := Op.build 27 #[(0, Operand.tmp 15), (1, Operand.tmp 28), (2, Operand.tmp 32)]) (T := 27) (v := ?vy43x) rfl rfl rfl rfl (by kernel_rfl) (by kernel_rfl) (by kernel_rfl) (fun _ _ _ h => h) (by rfl) ?hy43x hHeld ?ry43x
              case hy43x => (intro w' hSw; (try dsimp only at hSw); go_simp <;> with_reducible rfl)
              try simp only [Act.put, List.setIfInBounds_toArray, List.set_cons_zero, List.set_cons_succ]
              obtain ⟨z0, z1, z2, z3, z4, zf0, zf1, zf2, zf3, zf4⟩ := blk5 mP
              have hne : Pn ≠ ab := by omega
              have hx8 : (((((v24.setCell ⟨Pn, 0, none⟩ (.int .i64 GA)).setCell ⟨Pn, 1, none⟩ (.int .i64 GB)).setCell ⟨Pn, 2, none⟩ (.string c)).setCell ⟨Pn, 3, none⟩ (.int .i64 GD)).setCell ⟨Pn, 4, none⟩ (.int .i64 GE)).cell? ⟨ab, 0, none⟩ = some (.string a) ∧ (((((v24.setCell ⟨Pn, 0, none⟩ (.int .i64 GA)).setCell ⟨Pn, 1, none⟩ (.int .i64 GB)).setCell ⟨Pn, 2, none⟩ (.string c)).setCell ⟨Pn, 3, none⟩ (.int .i64 GD)).setCell ⟨Pn, 4, none⟩ (.int .i64 GE)).cell? ⟨ab, 1, none⟩ = some (.string b) ∧ (((((v24.setCell ⟨Pn, 0, none⟩ (.int .i64 GA)).setCell ⟨Pn, 1, none⟩ (.int .i64 GB)).setCell ⟨Pn, 2, none⟩ (.string c)).setCell ⟨Pn, 3, none⟩ (.int .i64 GD)).setCell ⟨Pn, 4, none⟩ (.int .i64 GE)).cell? ⟨ab, 2, none⟩ = some (.string c) ∧ (((((v24.setCell ⟨Pn, 0, none⟩ (.int .i64 GA)).setCell ⟨Pn, 1, none⟩ (.int .i64 GB)).setCell ⟨Pn, 2, none⟩ (.string c)).setCell ⟨Pn, 3, none⟩ (.int .i64 GD)).setCell ⟨Pn, 4, none⟩ (.int .i64 GE)).cell? ⟨ab, 3, none⟩ = some (.string d) ∧ (((((v24.setCell ⟨Pn, 0, none⟩ (.int .i64 GA)).setCell ⟨Pn, 1, none⟩ (.int .i64 GB)).setCell ⟨Pn, 2, none⟩ (.string c)).setCell ⟨Pn, 3, none⟩ (.int .i64 GD)).setCell ⟨Pn, 4, none⟩ (.int .i64 GE)).cell? ⟨ab, 4, none⟩ = some (.string f) := ⟨by rw [set5_other hne]; exact hHeld.1, by rw [set5_other hne]; exact hHeld.2.1, by rw [set5_other hne]; exact hHeld.2.2.1, by rw [set5_other hne]; exact hHeld.2.2.2.1, by rw [set5_other hne]; exact hHeld.2.2.2.2⟩
              refine skip_op (i := 23) (OP := Op.store 27 (Operand.tmp 5) (Operand.tmp 33)) (T := 0) (w' := (((((v24.setCell ⟨Pn, 0, none⟩ (.int .i64 GA)).setCell ⟨Pn, 1, none⟩ (.int .i64 GB)).setCell ⟨Pn, 2, none⟩ (.string c)).setCell ⟨Pn, 3, none⟩ (.int .i64 GD)).setCell ⟨Pn, 4, none⟩ (.int .i64 GE))) rfl rfl rfl rfl (by kernel_rfl) (by rfl) (by go_simp) ⟨hx8, ?_⟩
              refine wpAnyH_done (by kernel_rfl) ?_ _
              go_wp2
              go_meet
              exact ⟨Pn, rfl, hide ⟨set5 mP, bel5 (by omega) hD, bel5 hp hQ, by simp only [setCell_size]; omega⟩⟩
          · try simp only [Act.put, List.setIfInBounds_toArray, List.set_cons_zero, List.set_cons_succ]
            replace hHeld := hSl16
            have mP := heap_alloc_new v15 (.cells #[.int .i64 0, .int .i64 0, .string ⟨#[]⟩, .int .i64 0, .int .i64 0] 27)
            replace hD := hD.alloc hD.size (.cells #[.int .i64 0, .int .i64 0, .string ⟨#[]⟩, .int .i64 0, .int .i64 0] 27)
            replace hQ := hQ.alloc hz (.cells #[.int .i64 0, .int .i64 0, .string ⟨#[]⟩, .int .i64 0, .int .i64 0] 27)
            have hp : w.heap.size + 1 ≤ v15.heap.size := hz
            have hpz : v15.heap.size < (v15.alloc (.cells #[.int .i64 0, .int .i64 0, .string ⟨#[]⟩, .int .i64 0, .int .i64 0] 27)).heap.size := by simp
            replace hz : w.heap.size + 1 ≤ (v15.alloc (.cells #[.int .i64 0, .int .i64 0, .string ⟨#[]⟩, .int .i64 0, .int .i64 0] 27)).heap.size := by simp; omega
            clear hSl16
            have hab : ab < v15.heap.size := haz
            replace haz : ab < (v15.alloc (.cells #[.int .i64 0, .int .i64 0, .string ⟨#[]⟩, .int .i64 0, .int .i64 0] 27)).heap.size := by simp; omega
            generalize v15.heap.size = Pn at mP hp hpz hab ⊢
            generalize v15.alloc (.cells #[.int .i64 0, .int .i64 0, .string ⟨#[]⟩, .int .i64 0, .int .i64 0] 27) = x16 at hHeld mP hD hQ hz hpz haz ⊢
            refine call_op (i := 7) (d := 19) (OP := Op.call { callee := Callee.value (Operand.func 94), args := #[Operand.tmp 18], argTypes := #[9] }) (T := 2) (f := 94) (args := #[.string b]) rfl rfl rfl rfl (by kernel_rfl) (by rfl) (by go_simp) ?_
            refine (h94b _ hD).mono ?_
            rintro e v26 ⟨rfl, bb⟩
            have hS2 : v26.cell? ⟨ab, 0, none⟩ = some (.string a) ∧ v26.cell? ⟨ab, 1, none⟩ = some (.string b) ∧ v26.cell? ⟨ab, 2, none⟩ = some (.string c) ∧ v26.cell? ⟨ab, 3, none⟩ = some (.string d) ∧ v26.cell? ⟨ab, 4, none⟩ = some (.string f) := ⟨kept bb hHeld.1, kept bb hHeld.2.1, kept bb hHeld.2.2.1, kept bb hHeld.2.2.2.1, kept bb hHeld.2.2.2.2⟩
            replace hD := hD.trans (bb.mono hD.size)
            replace hQ := hQ.trans (bb.mono hz)
            replace hz := Nat.le_trans hz bb.size
            replace haz := Nat.lt_of_lt_of_le haz bb.size
            replace mP := (bb.block _ hpz).trans mP
            replace hpz := Nat.lt_of_lt_of_le hpz bb.size
            clear bb
            refine ⟨_, rfl, hS2, ?_⟩
            replace hHeld := hS2
            try simp only [Act.put, List.setIfInBounds_toArray, List.set_cons_zero, List.set_cons_succ]
            clear hS2
            refine take_op (i := 11) (d := 23) (OP := Op.build 23 #[(0, Operand.tmp 19), (1, Operand.tmp 22)]) (T := 23) (v := ?vy44x) rfl rfl rfl rfl (by kernel_rfl) (by kernel_rfl) (by kernel_rfl) (fun _ _ _ h => h) (by rfl) ?hy44x hHeld ?ry44x
            case hy44x => (intro w' hSw; (try dsimp only at hSw); go_simp <;> with_reducible rfl)
            try simp only [Act.put, List.setIfInBounds_toArray, List.set_cons_zero, List.set_cons_succ]
            refine call_op (i := 15) (d := 27) (OP := Op.call { callee := Callee.value (Operand.func 94), args := #[Operand.tmp 26], argTypes := #[9] }) (T := 2) (f := 94) (args := #[.string d]) rfl rfl rfl rfl (by kernel_rfl) (by rfl) (by go_simp) ?_
            refine (h94d _ hD).mono ?_
            rintro e v27 ⟨rfl, bb⟩
            have hS2 : v27.cell? ⟨ab, 0, none⟩ = some (.string a) ∧ v27.cell? ⟨ab, 1, none⟩ = some (.string b) ∧ v27.cell? ⟨ab, 2, none⟩ = some (.string c) ∧ v27.cell? ⟨ab, 3, none⟩ = some (.string d) ∧ v27.cell? ⟨ab, 4, none⟩ = some (.string f) := ⟨kept bb hHeld.1, kept bb hHeld.2.1, kept bb hHeld.2.2.1, kept bb hHeld.2.2.2.1, kept bb hHeld.2.2.2.2⟩
            replace hD := hD.trans (bb.mono hD.size)
            replace hQ := hQ.trans (bb.mono hz)
            replace hz := Nat.le_trans hz bb.size
            replace haz := Nat.lt_of_lt_of_le haz bb.size
            replace mP := (bb.block _ hpz).trans mP
            replace hpz := Nat.lt_of_lt_of_le hpz bb.size
            clear bb
            refine ⟨_, rfl, hS2, ?_⟩
            replace hHeld := hS2
            try simp only [Act.put, List.setIfInBounds_toArray, List.set_cons_zero, List.set_cons_succ]
            clear hS2
            refine take_op (i := 16) (d := 28) (OP := Op.build 25 #[(0, Operand.tmp 23), (1, Operand.tmp 27)]) (T := 25) (v := ?vy45x) rfl rfl rfl rfl (by kernel_rfl) (by kernel_rfl) (by kernel_rfl) (fun _ _ _ h => h) (by rfl) ?hy45x hHeld ?ry45x
            case hy45x => (intro w' hSw; (try dsimp only at hSw); go_simp <;> with_reducible rfl)
            try simp only [Act.put, List.setIfInBounds_toArray, List.set_cons_zero, List.set_cons_succ]
            refine call_op (i := 20) (d := 32) (OP := Op.call { callee := Callee.value (Operand.func 94), args := #[Operand.tmp 31], argTypes := #[9] }) (T := 2) (f := 94) (args := #[.string f]) rfl rfl rfl rfl (by kernel_rfl) (by rfl) (by go_simp) ?_
            refine (h94f _ hD).mono ?_
            rintro e v28 ⟨rfl, bb⟩
            have hS2 : v28.cell? ⟨ab, 0, none⟩ = some (.string a) ∧ v28.cell? ⟨ab, 1, none⟩ = some (.string b) ∧ v28.cell? ⟨ab, 2, none⟩ = some (.string c) ∧ v28.cell? ⟨ab, 3, none⟩ = some (.string d) ∧ v28.cell? ⟨ab, 4, none⟩ = some (.string f) := ⟨kept bb hHeld.1, kept bb hHeld.2.1, kept bb hHeld.2.2.1, kept bb hHeld.2.2.2.1, kept bb hHeld.2.2.2.2⟩
            replace hD := hD.trans (bb.mono hD.size)
            replace hQ := hQ.trans (bb.mono hz)
            replace hz := Nat.le_trans hz bb.size
            replace haz := Nat.lt_of_lt_of_le haz bb.size
            replace mP := (bb.block _ hpz).trans mP
            replace hpz := Nat.lt_of_lt_of_le hpz bb.size
            clear bb
            refine ⟨_, rfl, hS2, ?_⟩
            replace hHeld := hS2
            try simp only [Act.put, List.setIfInBounds_toArray, List.set_cons_zero, List.set_cons_succ]
            clear hS2
            refine take_op (i := 21) (d := 33) (OP := Op.build 27 #[(0, Operand.tmp 15), (1, Operand.tmp 28), (2, Operand.tmp 32)]) (T := 27) (v := ?vy46x) rfl rfl rfl rfl (by kernel_rfl) (by kernel_rfl) (by kernel_rfl) (fun _ _ _ h => h) (by rfl) ?hy46x hHeld ?ry46x
            case hy46x => (intro w' hSw; (try dsimp only at hSw); go_simp <;> with_reducible rfl)
            try simp only [Act.put, List.setIfInBounds_toArray, List.set_cons_zero, List.set_cons_succ]
            obtain ⟨z0, z1, z2, z3, z4, zf0, zf1, zf2, zf3, zf4⟩ := blk5 mP
            have hne : Pn ≠ ab := by omega
            have hx8 : (((((v28.setCell ⟨Pn, 0, none⟩ (.int .i64 GA)).setCell ⟨Pn, 1, none⟩ (.int .i64 GB)).setCell ⟨Pn, 2, none⟩ (.string c)).setCell ⟨Pn, 3, none⟩ (.int .i64 GD)).setCell ⟨Pn, 4, none⟩ (.int .i64 GE)).cell? ⟨ab, 0, none⟩ = some (.string a) ∧ (((((v28.setCell ⟨Pn, 0, none⟩ (.int .i64 GA)).setCell ⟨Pn, 1, none⟩ (.int .i64 GB)).setCell ⟨Pn, 2, none⟩ (.string c)).setCell ⟨Pn, 3, none⟩ (.int .i64 GD)).setCell ⟨Pn, 4, none⟩ (.int .i64 GE)).cell? ⟨ab, 1, none⟩ = some (.string b) ∧ (((((v28.setCell ⟨Pn, 0, none⟩ (.int .i64 GA)).setCell ⟨Pn, 1, none⟩ (.int .i64 GB)).setCell ⟨Pn, 2, none⟩ (.string c)).setCell ⟨Pn, 3, none⟩ (.int .i64 GD)).setCell ⟨Pn, 4, none⟩ (.int .i64 GE)).cell? ⟨ab, 2, none⟩ = some (.string c) ∧ (((((v28.setCell ⟨Pn, 0, none⟩ (.int .i64 GA)).setCell ⟨Pn, 1, none⟩ (.int .i64 GB)).setCell ⟨Pn, 2, none⟩ (.string c)).setCell ⟨Pn, 3, none⟩ (.int .i64 GD)).setCell ⟨Pn, 4, none⟩ (.int .i64 GE)).cell? ⟨ab, 3, none⟩ = some (.string d) ∧ (((((v28.setCell ⟨Pn, 0, none⟩ (.int .i64 GA)).setCell ⟨Pn, 1, none⟩ (.int .i64 GB)).setCell ⟨Pn, 2, none⟩ (.string c)).setCell ⟨Pn, 3, none⟩ (.int .i64 GD)).setCell ⟨Pn, 4, none⟩ (.int .i64 GE)).cell? ⟨ab, 4, none⟩ = some (.string f) := ⟨by rw [set5_other hne]; exact hHeld.1, by rw [set5_other hne]; exact hHeld.2.1, by rw [set5_other hne]; exact hHeld.2.2.1, by rw [set5_other hne]; exact hHeld.2.2.2.1, by rw [set5_other hne]; exact hHeld.2.2.2.2⟩
            refine skip_op (i := 23) (OP := Op.store 27 (Operand.tmp 5) (Operand.tmp 33)) (T := 0) (w' := (((((v28.setCell ⟨Pn, 0, none⟩ (.int .i64 GA)).setCell ⟨Pn, 1, none⟩ (.int .i64 GB)).setCell ⟨Pn, 2, none⟩ (.string c)).setCell ⟨Pn, 3, none⟩ (.int .i64 GD)).setCell ⟨Pn, 4, none⟩ (.int .i64 GE))) rfl rfl rfl rfl (by kernel_rfl) (by rfl) (by go_simp) ⟨hx8, ?_⟩
            refine wpAnyH_done (by kernel_rfl) ?_ _
            go_wp2
            go_meet
            exact ⟨Pn, rfl, hide ⟨set5 mP, bel5 (by omega) hD, bel5 hp hQ, by simp only [setCell_size]; omega⟩⟩
        · try simp only [Act.put, List.setIfInBounds_toArray, List.set_cons_zero, List.set_cons_succ]
          replace hHeld := hSl15
          have mP := heap_alloc_new W1 (.cells #[.int .i64 0, .int .i64 0, .string ⟨#[]⟩, .int .i64 0, .int .i64 0] 27)
          replace hD := hD.alloc hD.size (.cells #[.int .i64 0, .int .i64 0, .string ⟨#[]⟩, .int .i64 0, .int .i64 0] 27)
          replace hQ := hQ.alloc hz (.cells #[.int .i64 0, .int .i64 0, .string ⟨#[]⟩, .int .i64 0, .int .i64 0] 27)
          have hp : w.heap.size + 1 ≤ W1.heap.size := hz
          have hpz : W1.heap.size < (W1.alloc (.cells #[.int .i64 0, .int .i64 0, .string ⟨#[]⟩, .int .i64 0, .int .i64 0] 27)).heap.size := by simp
          replace hz : w.heap.size + 1 ≤ (W1.alloc (.cells #[.int .i64 0, .int .i64 0, .string ⟨#[]⟩, .int .i64 0, .int .i64 0] 27)).heap.size := by simp; omega
          clear hSl15
          have hab : ab < W1.heap.size := haz
          replace haz : ab < (W1.alloc (.cells #[.int .i64 0, .int .i64 0, .string ⟨#[]⟩, .int .i64 0, .int .i64 0] 27)).heap.size := by simp; omega
          generalize W1.heap.size = Pn at mP hp hpz hab ⊢
          generalize W1.alloc (.cells #[.int .i64 0, .int .i64 0, .string ⟨#[]⟩, .int .i64 0, .int .i64 0] 27) = x15 at hHeld mP hD hQ hz hpz haz ⊢
          refine call_op (i := 3) (d := 15) (OP := Op.call { callee := Callee.value (Operand.func 94), args := #[Operand.tmp 14], argTypes := #[9] }) (T := 2) (f := 94) (args := #[.string a]) rfl rfl rfl rfl (by kernel_rfl) (by rfl) (by go_simp) ?_
          refine (h94a _ hD).mono ?_
          rintro e v30 ⟨rfl, bb⟩
          have hS2 : v30.cell? ⟨ab, 0, none⟩ = some (.string a) ∧ v30.cell? ⟨ab, 1, none⟩ = some (.string b) ∧ v30.cell? ⟨ab, 2, none⟩ = some (.string c) ∧ v30.cell? ⟨ab, 3, none⟩ = some (.string d) ∧ v30.cell? ⟨ab, 4, none⟩ = some (.string f) := ⟨kept bb hHeld.1, kept bb hHeld.2.1, kept bb hHeld.2.2.1, kept bb hHeld.2.2.2.1, kept bb hHeld.2.2.2.2⟩
          replace hD := hD.trans (bb.mono hD.size)
          replace hQ := hQ.trans (bb.mono hz)
          replace hz := Nat.le_trans hz bb.size
          replace haz := Nat.lt_of_lt_of_le haz bb.size
          replace mP := (bb.block _ hpz).trans mP
          replace hpz := Nat.lt_of_lt_of_le hpz bb.size
          clear bb
          refine ⟨_, rfl, hS2, ?_⟩
          replace hHeld := hS2
          try simp only [Act.put, List.setIfInBounds_toArray, List.set_cons_zero, List.set_cons_succ]
          clear hS2
          refine call_op (i := 7) (d := 19) (OP := Op.call { callee := Callee.value (Operand.func 94), args := #[Operand.tmp 18], argTypes := #[9] }) (T := 2) (f := 94) (args := #[.string b]) rfl rfl rfl rfl (by kernel_rfl) (by rfl) (by go_simp) ?_
          refine (h94b _ hD).mono ?_
          rintro e v31 ⟨rfl, bb⟩
          have hS2 : v31.cell? ⟨ab, 0, none⟩ = some (.string a) ∧ v31.cell? ⟨ab, 1, none⟩ = some (.string b) ∧ v31.cell? ⟨ab, 2, none⟩ = some (.string c) ∧ v31.cell? ⟨ab, 3, none⟩ = some (.string d) ∧ v31.cell? ⟨ab, 4, none⟩ = some (.string f) := ⟨kept bb hHeld.1, kept bb hHeld.2.1, kept bb hHeld.2.2.1, kept bb hHeld.2.2.2.1, kept bb hHeld.2.2.2.2⟩
          replace hD := hD.trans (bb.mono hD.size)
          replace hQ := hQ.trans (bb.mono hz)
          replace hz := Nat.le_trans hz bb.size
          replace haz := Nat.lt_of_lt_of_le haz bb.size
          replace mP := (bb.block _ hpz).trans mP
          replace hpz := Nat.lt_of_lt_of_le hpz bb.size
          clear bb
          refine ⟨_, rfl, hS2, ?_⟩
          replace hHeld := hS2
          try simp only [Act.put, List.setIfInBounds_toArray, List.set_cons_zero, List.set_cons_succ]
          clear hS2
          refine take_op (i := 11) (d := 23) (OP := Op.build 23 #[(0, Operand.tmp 19), (1, Operand.tmp 22)]) (T := 23) (v := ?vy47x) rfl rfl rfl rfl (by kernel_rfl) (by kernel_rfl) (by kernel_rfl) (fun _ _ _ h => h) (by rfl) ?hy47x hHeld ?ry47x
          case hy47x => (intro w' hSw; (try dsimp only at hSw); go_simp <;> with_reducible rfl)
          try simp only [Act.put, List.setIfInBounds_toArray, List.set_cons_zero, List.set_cons_succ]
          refine call_op (i := 15) (d := 27) (OP := Op.call { callee := Callee.value (Operand.func 94), args := #[Operand.tmp 26], argTypes := #[9] }) (T := 2) (f := 94) (args := #[.string d]) rfl rfl rfl rfl (by kernel_rfl) (by rfl) (by go_simp) ?_
          refine (h94d _ hD).mono ?_
          rintro e v32 ⟨rfl, bb⟩
          have hS2 : v32.cell? ⟨ab, 0, none⟩ = some (.string a) ∧ v32.cell? ⟨ab, 1, none⟩ = some (.string b) ∧ v32.cell? ⟨ab, 2, none⟩ = some (.string c) ∧ v32.cell? ⟨ab, 3, none⟩ = some (.string d) ∧ v32.cell? ⟨ab, 4, none⟩ = some (.string f) := ⟨kept bb hHeld.1, kept bb hHeld.2.1, kept bb hHeld.2.2.1, kept bb hHeld.2.2.2.1, kept bb hHeld.2.2.2.2⟩
          replace hD := hD.trans (bb.mono hD.size)
          replace hQ := hQ.trans (bb.mono hz)
          replace hz := Nat.le_trans hz bb.size
          replace haz := Nat.lt_of_lt_of_le haz bb.size
          replace mP := (bb.block _ hpz).trans mP
          replace hpz := Nat.lt_of_lt_of_le hpz bb.size
          clear bb
          refine ⟨_, rfl, hS2, ?_⟩
          replace hHeld := hS2
          try simp only [Act.put, List.setIfInBounds_toArray, List.set_cons_zero, List.set_cons_succ]
          clear hS2
          refine take_op (i := 16) (d := 28) (OP := Op.build 25 #[(0, Operand.tmp 23), (1, Operand.tmp 27)]) (T := 25) (v := ?vy48x) rfl rfl rfl rfl (by kernel_rfl) (by kernel_rfl) (by kernel_rfl) (fun _ _ _ h => h) (by rfl) ?hy48x hHeld ?ry48x
          case hy48x => (intro w' hSw; (try dsimp only at hSw); go_simp <;> with_reducible rfl)
          try simp only [Act.put, List.setIfInBounds_toArray, List.set_cons_zero, List.set_cons_succ]
          refine call_op (i := 20) (d := 32) (OP := Op.call { callee := Callee.value (Operand.func 94), args := #[Operand.tmp 31], argTypes := #[9] }) (T := 2) (f := 94) (args := #[.string f]) rfl rfl rfl rfl (by kernel_rfl) (by rfl) (by go_simp) ?_
          refine (h94f _ hD).mono ?_
          rintro e v33 ⟨rfl, bb⟩
          have hS2 : v33.cell? ⟨ab, 0, none⟩ = some (.string a) ∧ v33.cell? ⟨ab, 1, none⟩ = some (.string b) ∧ v33.cell? ⟨ab, 2, none⟩ = some (.string c) ∧ v33.cell? ⟨ab, 3, none⟩ = some (.string d) ∧ v33.cell? ⟨ab, 4, none⟩ = some (.string f) := ⟨kept bb hHeld.1, kept bb hHeld.2.1, kept bb hHeld.2.2.1, kept bb hHeld.2.2.2.1, kept bb hHeld.2.2.2.2⟩
          replace hD := hD.trans (bb.mono hD.size)
          replace hQ := hQ.trans (bb.mono hz)
          replace hz := Nat.le_trans hz bb.size
          replace haz := Nat.lt_of_lt_of_le haz bb.size
          replace mP := (bb.block _ hpz).trans mP
          replace hpz := Nat.lt_of_lt_of_le hpz bb.size
          clear bb
          refine ⟨_, rfl, hS2, ?_⟩
          replace hHeld := hS2
          try simp only [Act.put, List.setIfInBounds_toArray, List.set_cons_zero, List.set_cons_succ]
          clear hS2
          refine take_op (i := 21) (d := 33) (OP := Op.build 27 #[(0, Operand.tmp 15), (1, Operand.tmp 28), (2, Operand.tmp 32)]) (T := 27) (v := ?vy49x) rfl rfl rfl rfl (by kernel_rfl) (by kernel_rfl) (by kernel_rfl) (fun _ _ _ h => h) (by rfl) ?hy49x hHeld ?ry49x
          case hy49x => (intro w' hSw; (try dsimp only at hSw); go_simp <;> with_reducible rfl)
          try simp only [Act.put, List.setIfInBounds_toArray, List.set_cons_zero, List.set_cons_succ]
          obtain ⟨z0, z1, z2, z3, z4, zf0, zf1, zf2, zf3, zf4⟩ := blk5 mP
          have hne : Pn ≠ ab := by omega
          have hx8 : (((((v33.setCell ⟨Pn, 0, none⟩ (.int .i64 GA)).setCell ⟨Pn, 1, none⟩ (.int .i64 GB)).setCell ⟨Pn, 2, none⟩ (.string c)).setCell ⟨Pn, 3, none⟩ (.int .i64 GD)).setCell ⟨Pn, 4, none⟩ (.int .i64 GE)).cell? ⟨ab, 0, none⟩ = some (.string a) ∧ (((((v33.setCell ⟨Pn, 0, none⟩ (.int .i64 GA)).setCell ⟨Pn, 1, none⟩ (.int .i64 GB)).setCell ⟨Pn, 2, none⟩ (.string c)).setCell ⟨Pn, 3, none⟩ (.int .i64 GD)).setCell ⟨Pn, 4, none⟩ (.int .i64 GE)).cell? ⟨ab, 1, none⟩ = some (.string b) ∧ (((((v33.setCell ⟨Pn, 0, none⟩ (.int .i64 GA)).setCell ⟨Pn, 1, none⟩ (.int .i64 GB)).setCell ⟨Pn, 2, none⟩ (.string c)).setCell ⟨Pn, 3, none⟩ (.int .i64 GD)).setCell ⟨Pn, 4, none⟩ (.int .i64 GE)).cell? ⟨ab, 2, none⟩ = some (.string c) ∧ (((((v33.setCell ⟨Pn, 0, none⟩ (.int .i64 GA)).setCell ⟨Pn, 1, none⟩ (.int .i64 GB)).setCell ⟨Pn, 2, none⟩ (.string c)).setCell ⟨Pn, 3, none⟩ (.int .i64 GD)).setCell ⟨Pn, 4, none⟩ (.int .i64 GE)).cell? ⟨ab, 3, none⟩ = some (.string d) ∧ (((((v33.setCell ⟨Pn, 0, none⟩ (.int .i64 GA)).setCell ⟨Pn, 1, none⟩ (.int .i64 GB)).setCell ⟨Pn, 2, none⟩ (.string c)).setCell ⟨Pn, 3, none⟩ (.int .i64 GD)).setCell ⟨Pn, 4, none⟩ (.int .i64 GE)).cell? ⟨ab, 4, none⟩ = some (.string f) := ⟨by rw [set5_other hne]; exact hHeld.1, by rw [set5_other hne]; exact hHeld.2.1, by rw [set5_other hne]; exact hHeld.2.2.1, by rw [set5_other hne]; exact hHeld.2.2.2.1, by rw [set5_other hne]; exact hHeld.2.2.2.2⟩
          refine skip_op (i := 23) (OP := Op.store 27 (Operand.tmp 5) (Operand.tmp 33)) (T := 0) (w' := (((((v33.setCell ⟨Pn, 0, none⟩ (.int .i64 GA)).setCell ⟨Pn, 1, none⟩ (.int .i64 GB)).setCell ⟨Pn, 2, none⟩ (.string c)).setCell ⟨Pn, 3, none⟩ (.int .i64 GD)).setCell ⟨Pn, 4, none⟩ (.int .i64 GE))) rfl rfl rfl rfl (by kernel_rfl) (by rfl) (by go_simp) ⟨hx8, ?_⟩
          refine wpAnyH_done (by kernel_rfl) ?_ _
          go_wp2
          go_meet
          exact ⟨Pn, rfl, hide ⟨set5 mP, bel5 (by omega) hD, bel5 hp hQ, by simp only [setCell_size]; omega⟩⟩
    case rest =>
      clear hS1 hD hQ hz haz b1
      obtain ⟨Pn, rfl, HP⟩ := hcut
      obtain ⟨mP, hD, hQ, hz⟩ := HP.out
      obtain ⟨y0, y1, y2, y3, y4, _, _, _, _, _⟩ := blk5 mP
      have hwz : w.heap.size + 1 ≤ wc.heap.size := by have := hQ.size; omega
      cases VV with
      | false =>
        have hpv : PV = false := by have := HV.out.1; simpa using this.symm
        obtain ⟨e0, e1, e2, e3, e4, eE⟩ := HV.out.2.2 hpv
        have HEQ := hide (And.intro eE (And.intro e0 (And.intro e1 (And.intro e2 (And.intro e3 e4)))))
        clear eE e0 e1 e2 e3 e4
        go_wp2_with (go_at_call 18; refine (hv _).mono ?_; rintro e w5 ⟨rfl, b5⟩; have HR := hide (hk w5 (hQ.trans (b5.mono hwz))); obtain ⟨z0, z1, z2, z3, z4, zf0, zf1, zf2, zf3, zf4⟩ := blk5 HR.out; have hD5 := hD.trans (b5.mono hD.size); clear b5)
        refine ret_row_tmp w.heap.size [.int .i64 0, .int .i64 0, .string ⟨#[]⟩, .int .i64 0, .int .i64 0] rfl rfl rfl Tryz.underlying27 rfl (by kernel_rfl) (t := 27) (fr := (0, 0)) (set5 HR.out) rfl ?_
        exact ⟨by rw [HEQ.out.1, HEQ.out.2.1, HEQ.out.2.2.1, HEQ.out.2.2.2.1, HEQ.out.2.2.2.2.1, HEQ.out.2.2.2.2.2] <;> rfl, bel5 (Nat.le_refl _) hD5⟩
      | true =>
        have hty := ht rfl
        clear ht
        by_cases hTs : TT = s
        · have hpv : PV = true := by have := HV.out.1; rw [← this]; simp [hTs]
          obtain ⟨e0, e1, e2, e3, e4, eE⟩ := HV.out.2.1 hpv
          have HEQ := hide (And.intro eE (And.intro e0 (And.intro e1 (And.intro e2 (And.intro e3 e4)))))
          clear eE e0 e1 e2 e3 e4
          subst hTs
          go_wp2_with (go_at_call 18; refine (hv _).mono ?_; rintro e w5 ⟨rfl, b5⟩; have mP5 := (b5.block _ hz).trans mP; have hD5 := hD.trans (b5.mono hD.size); have hQ5 := hQ.trans (b5.mono hwz); have hz5 := Nat.le_trans hwz b5.size; have hzP := Nat.lt_of_lt_of_le hz b5.size; clear y0 y1 y2 y3 y4 b5; obtain ⟨y0, y1, y2, y3, y4, _, _, _, _, _⟩ := blk5 mP5)
          go_wp2_with (go_at_call 24; refine (hty _ hD5).mono ?_; rintro e w6 ⟨rfl, b6⟩; have mP6 := (b6.block _ hzP).trans mP5; have HR := hide (hk w6 (hQ5.trans (b6.mono hz5))); have hD6 := hD5.trans (b6.mono hD5.size); clear y0 y1 y2 y3 y4 b6; obtain ⟨y0, y1, y2, y3, y4, _, _, _, _, _⟩ := blk5 mP6; obtain ⟨z0, z1, z2, z3, z4, zf0, zf1, zf2, zf3, zf4⟩ := blk5 HR.out)
          refine ret_row_tmp w.heap.size [.int .i64 GA, .int .i64 GB, .string c, .int .i64 GD, .int .i64 GE] rfl rfl rfl Tryz.underlying27 rfl (by kernel_rfl) (t := 27) (fr := (0, 0)) (set5 HR.out) rfl ?_
          exact ⟨by rw [HEQ.out.1, HEQ.out.2.1, HEQ.out.2.2.1, HEQ.out.2.2.2.1, HEQ.out.2.2.2.2.1, HEQ.out.2.2.2.2.2] <;> rfl, bel5 (Nat.le_refl _) hD6⟩
        · have hpv : PV = false := by have := HV.out.1; rw [← this]; simp [hTs]
          obtain ⟨e0, e1, e2, e3, e4, eE⟩ := HV.out.2.2 hpv
          have HEQ := hide (And.intro eE (And.intro e0 (And.intro e1 (And.intro e2 (And.intro e3 e4)))))
          clear eE e0 e1 e2 e3 e4
          have hTn : (TT.toList == s.toList) = false := by rw [beq_eq_false_iff_ne, ByteArray.toList_eq, ByteArray.toList_eq]; exact fun h => hTs (ba_ext h)
          go_wp2_with (go_at_call 18; refine (hv _).mono ?_; rintro e w5 ⟨rfl, b5⟩; have mP5 := (b5.block _ hz).trans mP; have hD5 := hD.trans (b5.mono hD.size); have hQ5 := hQ.trans (b5.mono hwz); have hz5 := Nat.le_trans hwz b5.size; clear y0 y1 y2 y3 y4 b5; obtain ⟨y0, y1, y2, y3, y4, _, _, _, _, _⟩ := blk5 mP5)
          go_wp2_with (go_at_call 24; refine (hty _ hD5).mono ?_; rintro e w6 ⟨rfl, b6⟩; have HR := hide (hk w6 (hQ5.trans (b6.mono hz5))); have hD6 := hD5.trans (b6.mono hD5.size); clear b6; obtain ⟨z0, z1, z2, z3, z4, zf0, zf1, zf2, zf3, zf4⟩ := blk5 HR.out)
          refine ret_row_tmp w.heap.size [.int .i64 0, .int .i64 0, .string ⟨#[]⟩, .int .i64 0, .int .i64 0] rfl rfl rfl Tryz.underlying27 rfl (by kernel_rfl) (t := 27) (fr := (0, 0)) (set5 HR.out) rfl ?_
          exact ⟨by rw [HEQ.out.1, HEQ.out.2.1, HEQ.out.2.2.1, HEQ.out.2.2.2.1, HEQ.out.2.2.2.2.1, HEQ.out.2.2.2.2.2] <;> rfl, bel5 (Nat.le_refl _) hD6⟩
  · have hpv : PV = false := by rw [hPV]; exact ds_ne hn
    obtain ⟨e0, e1, e2, e3, e4, eE⟩ := hF hpv
    have HEQ := hide (And.intro eE (And.intro e0 (And.intro e1 (And.intro e2 (And.intro e3 e4)))))
    clear eE hF hPV hEe hpv hpl e0 hP0 e1 hP1 e2 hP2 e3 hP3 e4 hP4
    generalize pcs s = PC at h93 hn
    have hn2 : ((PC.length : Int) == 5) = false := by rw [beq_eq_false_iff_ne]; omega
    clear hn
    go_enter Tryz.func47, Tryz.ntmps47
    go_wp2_with (go_at_call 93; refine h93.mono ?_; rintro e w1 ⟨v, rfl, hO, b1⟩; obtain ⟨ao, cc, rfl, -, -, -, -⟩ := hO.shape; have HR := hide (hk w1 (b1.mono (by omega))); obtain ⟨z0, z1, z2, z3, z4, zf0, zf1, zf2, zf3, zf4⟩ := blk5 HR.out; have hD5 := hb.trans (b1.mono hb.size); clear hO b1)
    refine ret_row_tmp w.heap.size [.int .i64 0, .int .i64 0, .string ⟨#[]⟩, .int .i64 0, .int .i64 0] rfl rfl rfl Tryz.underlying27 rfl (by kernel_rfl) (t := 27) (fr := (0, 0)) (set5 HR.out) rfl ?_
    exact ⟨by rw [HEQ.out.1, HEQ.out.2.1, HEQ.out.2.2.1, HEQ.out.2.2.2.1, HEQ.out.2.2.2.2.1, HEQ.out.2.2.2.2.2] <;> rfl, bel5 (Nat.le_refl _) hD5⟩
end Go.Proofs.YtkjabnpniingnaaGreatDoor
