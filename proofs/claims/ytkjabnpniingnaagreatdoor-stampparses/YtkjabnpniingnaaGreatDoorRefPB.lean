/-
  REFPARSEB: the document's reading of a text.
-/
import Derived.Test.YtkjabnpniingnaaGreatDoorCut9
import Derived.Test.YtkjabnpniingnaaGreatDoorOfKey
import Derived.Deep.DeepCutAuto
import Derived.Deep.CutBlock
namespace Go.Proofs.YtkjabnpniingnaaGreatDoor
open Go.RowKit Go.Shelf
set_option linter.unusedSimpArgs false

theorem len2 {α : Type} {l : List α} (h : l.length = 2) : ∃ a b, l = [a, b] := by
  match l, h with
  | [a, b], _ => exact ⟨a, b, rfl⟩
theorem len3 {α : Type} {l : List α} (h : l.length = 3) : ∃ a b c, l = [a, b, c] := by
  match l, h with
  | [a, b, c], _ => exact ⟨a, b, c, rfl⟩
theorem len5 {α : Type} {l : List α} (h : l.length = 5) : ∃ a b c d e, l = [a, b, c, d, e] := by
  match l, h with
  | [a, b, c, d, e], _ => exact ⟨a, b, c, d, e, rfl⟩
theorem Os.at {w : World} {B : Nat} {v : Value} {L : List ByteArray} {k : Nat} (h : Os w B v L) (hk : L.length = k) (h0 : k ≠ 0) : ∃ g c, v = .slice (some ⟨g, 0, none⟩) k c ∧ B ≤ g ∧ g < w.heap.size ∧ ∀ j s, L[j]? = some s → w.cell? ⟨g, j, none⟩ = some (.string s) := by
  have hlt := World.ownsRow.lt h
  have hcells := fun g => World.ownsRow.cells h (g := g)
  rcases h.2 with ⟨rfl, hn⟩ | ⟨g, cap, cur, rfl, hb, hg, hnc, rest⟩
  · omega
  · refine ⟨g, cap, by rw [hk], (hlt g rfl).1, (hlt g rfl).2, fun j s hj => ?_⟩
    have := hcells g rfl j (.string s) (by rw [List.getElem?_map, hj]; rfl)
    rw [add_lit] at this
    simpa using this
theorem setCell_size (w : World) (a : Addr) (v : Value) : (w.setCell a v).heap.size = w.heap.size := by simp [World.setCell]
theorem splitD_len (l : List UInt8) : ∀ p ∈ splitD l, p.length ≤ l.length := by
  induction l with
  | nil => intro p hp; simp [splitD] at hp; subst hp; simp
  | cons c r ih =>
    intro p hp
    rw [splitD] at hp
    split at hp
    · rcases List.mem_cons.1 hp with rfl | h
      · simp
      · have := ih p h; simp; omega
    · split at hp
      · simp at hp; subst hp; simp
      next h t heq =>
        rcases List.mem_cons.1 hp with rfl | h'
        · have := ih h (by rw [heq]; simp); simp; omega
        · have := ih p (by rw [heq]; simp [h']); simp; omega
theorem pcs_sizes (s : ByteArray) : ∀ p ∈ pcs s, p.size ≤ s.size := by
  intro p hp
  unfold pcs at hp
  rw [List.mem_map] at hp
  obtain ⟨l, hl, rfl⟩ := hp
  have := splitD_len _ l (List.mem_of_mem_take hl)
  rw [Lib.size_eq s]
  exact this
theorem exec_alloc27 {ev : Operand → Value} {T : TypeId} {w : World} :
    (execOp ev { dst := none, op := .alloc 27, type := T, pos := "", after := #[], guard := none }).run Tryz.prog w = .ok (.value (.pointer (some ⟨w.heap.size, 0, none⟩))) (w.alloc (.cells #[.int .i64 0, .int .i64 0, .string ⟨#[]⟩, .int .i64 0, .int .i64 0] 27)) := by
  unfold execOp
  go_simp
theorem set2_other {w : World} {R b : Nat} {k : Nat} {x y : Value} (h : R ≠ b) : ((w.setCell ⟨R, 0, none⟩ x).setCell ⟨R, 1, none⟩ y).cell? ⟨b, k, none⟩ = w.cell? ⟨b, k, none⟩ := by
  refine World.cell?_of_block ?_
  rw [Below.heap_setCell _ _ _ _ (Ne.symm h), Below.heap_setCell _ _ _ _ (Ne.symm h)]
set_option maxHeartbeats 4000000 in
set_option maxRecDepth 100000 in
theorem refParseBranch_any (s : ByteArray) (w : World) (hs : s.size ≤ 100000) (hE : EnvE w) : Calls Tryz.prog 43 #[.string s] w fun e w' => e = .returned (.tuple #[bv (pbR s) (pbL s), .int .i64 (if pbV s then 0 else 4)]) ∧ Below w.heap.size w w' := by
  have hb := below_new w (.cells #[.int .i64 0, .string ⟨#[]⟩] 23)
  have hbk := heap_alloc_new w (.cells #[.int .i64 0, .string ⟨#[]⟩] 23)
  have hs1 : w.heap.size + 1 = (w.alloc (.cells #[.int .i64 0, .string ⟨#[]⟩] 23)).heap.size := by simp
  have h93 := cut9_any s (w.alloc (.cells #[.int .i64 0, .string ⟨#[]⟩] 23)) (by omega)
  have hk : ∀ W, Below (w.heap.size + 1) (w.alloc (.cells #[.int .i64 0, .string ⟨#[]⟩] 23)) W → W.heap[w.heap.size]? = some (.cells #[.int .i64 0, .string ⟨#[]⟩] 23) := fun W h => (h.block _ (by omega)).trans hbk
  have hpl := pcs_sizes s
  obtain ⟨PV, hPV⟩ : ∃ PV, PV = pbV s := ⟨_, rfl⟩
  obtain ⟨E, hEe⟩ : ∃ E : Int, E = (if pbV s then 0 else 4) := ⟨_, rfl⟩
  obtain ⟨P0, hP0⟩ : ∃ P0, P0 = pbR s := ⟨_, rfl⟩
  obtain ⟨P1, hP1⟩ : ∃ P1, P1 = pbL s := ⟨_, rfl⟩
  rw [← hEe, ← hP0, ← hP1]
  have hF : PV = false → P0 = 0 ∧ P1 = ⟨#[]⟩ ∧ E = 4 := fun h => by rw [h] at hPV; rw [hEe, hP0, hP1]; unfold pbR pbL; rw [← hPV]; exact ⟨rfl, rfl, rfl⟩
  by_cases hn : (pcs s).length = 2
  · obtain ⟨a, b, hp⟩ : ∃ a b, pcs s = [a, b] := len2 hn
    have hsz : a.size ≤ s.size ∧ b.size ≤ s.size := by rw [hp] at hpl; exact ⟨hpl a (by simp), hpl b (by simp)⟩
    obtain ⟨hVe, hVv⟩ := db_eq hp
    have h94a : ∀ W, Below w.heap.size w W → Calls Tryz.prog 94 #[.string a] W fun e w' => e = .returned (.int .i64 (guessI a)) ∧ Below W.heap.size W w' := fun W h => read_any a W (by omega) (hE.below h)
    obtain ⟨GA, hGA⟩ : ∃ GA, guessI a = GA := ⟨_, rfl⟩
    rw [hGA] at h94a hVe hVv
    have hT : PV = true → P0 = GA ∧ P1 = b ∧ E = 0 := fun h => by
      rw [h] at hPV
      obtain ⟨e0, e1⟩ := hVv hPV.symm
      rw [hEe, ← hPV, hP0, hP1, ← e0, ← e1]; exact ⟨rfl, rfl, rfl⟩
    rw [← hPV] at hVe
    have hv : ∀ W, Calls Tryz.prog 22 #[.agg #[.int .i64 GA, .string b]] W fun e w' => e = .returned (.bool (branchV GA b)) ∧ Below W.heap.size W w' := fun W => refBranch_any GA b W (by omega)
    have ht : branchV GA b = true → ∀ W, Below w.heap.size w W → Calls Tryz.prog 30 #[.agg #[.int .i64 GA, .string b]] W fun e w' => e = .returned (.string (brT GA b)) ∧ Below W.heap.size W w' := fun hv W h => by
      have := B_bounds hv
      exact refTextBranch_any GA b W (by omega) (by omega) (by omega) (hE.below h).env
    generalize brT GA b = TT at ht hVe
    generalize branchV GA b = VV at hv ht hVe
    rw [hp] at h93
    clear hVv hpl hn hp hE hPV hEe hP0 hP1 hGA
    have HV := hide (And.intro hVe (And.intro hT hF))
    clear hVe hT hF
    go_enter Tryz.func43, Tryz.ntmps43
    go_upto_region 4 with (go_at_call 93; refine h93.mono ?_; rintro e w1 ⟨v, rfl, hO, b1⟩; obtain ⟨ab, cc, rfl, hb0, hb1, hq⟩ := hO.at (k := 2) rfl (by omega); clear hO)
    have hD : Below w.heap.size w w1.drew := (hb.trans (b1.mono hb.size)).drew
    have hQ : Below (w.heap.size + 1) (w.alloc (.cells #[.int .i64 0, .string ⟨#[]⟩] 23)) w1.drew := (b1.mono (by omega)).drew
    have hz : w.heap.size + 1 ≤ w1.drew.heap.size := by have := b1.size; show _ ≤ w1.heap.size; omega
    have haz : ab < w1.drew.heap.size := hb1
    have hS1 : w1.drew.cell? ⟨ab, 0, none⟩ = some (.string a) ∧ w1.drew.cell? ⟨ab, 1, none⟩ = some (.string b) := ⟨hq 0 a rfl, hq 1 b rfl⟩
    clear hq
    go_cut [5] (fun v5 wc => ∃ Pn, v5 = .pointer (some ⟨Pn, 0, none⟩) ∧ Hid (wc.heap[Pn]? = some (.cells #[.int .i64 GA, .string b] 23 (0, 0)) ∧ Below w.heap.size w wc ∧ Below (w.heap.size + 1) (w.alloc (.cells #[.int .i64 0, .string ⟨#[]⟩] 23)) wc ∧ Pn < wc.heap.size))
    case first =>
      as_aux_lemma =>
        refine wp_region_held_drew (S := (fun w' => w'.cell? ⟨ab, 0, none⟩ = some (.string a) ∧ w'.cell? ⟨ab, 1, none⟩ = some (.string b))) (by kernel_rfl) (by exact hS1) (fun hHeld => ?_)
        try dsimp only at hHeld
        generalize w1.drew = W1 at hHeld hD hQ hz haz ⊢
        refine take_op (i := 0) (d := 12) (OP := Op.move (Operand.tmp 4)) (T := 120) (v := ?vy1x) rfl rfl rfl rfl (by kernel_rfl) (by kernel_rfl) (by kernel_rfl) (fun _ _ _ h => h) (by rfl) ?hy1x hHeld ?ry1x
        case hy1x => (intro w' hSw; (try dsimp only at hSw); go_simp <;> with_reducible rfl)
        try simp only [Act.put, List.setIfInBounds_toArray, List.set_cons_zero, List.set_cons_succ]
        refine take_op (i := 1) (d := 13) (OP := Op.indexAddr 120 (Operand.tmp 12) (Operand.const (Value.int IntKind.i64 0))) (T := 0) (v := ?vy2x) rfl rfl rfl rfl (by kernel_rfl) (by kernel_rfl) (by kernel_rfl) (fun _ _ _ h => h) (by rfl) ?hy2x hHeld ?ry2x
        case hy2x => (intro w' hSw; (try dsimp only at hSw); go_simp <;> with_reducible rfl)
        try simp only [Act.put, List.setIfInBounds_toArray, List.set_cons_zero, List.set_cons_succ]
        refine take_op (i := 2) (d := 14) (OP := Op.load 9 (Operand.tmp 13)) (T := 9) (v := ?vy3x) rfl rfl rfl rfl (by kernel_rfl) (by kernel_rfl) (by kernel_rfl) (fun _ _ _ h => h) (by rfl) ?hy3x hHeld ?ry3x
        case hy3x => (intro w' hSw; (try dsimp only at hSw); go_simp <;> with_reducible rfl)
        try simp only [Act.put, List.setIfInBounds_toArray, List.set_cons_zero, List.set_cons_succ]
        refine take_op (i := 4) (d := 16) (OP := Op.move (Operand.tmp 4)) (T := 120) (v := ?vy4x) rfl rfl rfl rfl (by kernel_rfl) (by kernel_rfl) (by kernel_rfl) (fun _ _ _ h => h) (by rfl) ?hy4x hHeld ?ry4x
        case hy4x => (intro w' hSw; (try dsimp only at hSw); go_simp <;> with_reducible rfl)
        try simp only [Act.put, List.setIfInBounds_toArray, List.set_cons_zero, List.set_cons_succ]
        refine take_op (i := 5) (d := 17) (OP := Op.indexAddr 120 (Operand.tmp 16) (Operand.const (Value.int IntKind.i64 1))) (T := 0) (v := ?vy5x) rfl rfl rfl rfl (by kernel_rfl) (by kernel_rfl) (by kernel_rfl) (fun _ _ _ h => h) (by rfl) ?hy5x hHeld ?ry5x
        case hy5x => (intro w' hSw; (try dsimp only at hSw); go_simp <;> with_reducible rfl)
        try simp only [Act.put, List.setIfInBounds_toArray, List.set_cons_zero, List.set_cons_succ]
        refine take_op (i := 6) (d := 18) (OP := Op.load 9 (Operand.tmp 17)) (T := 9) (v := ?vy6x) rfl rfl rfl rfl (by kernel_rfl) (by kernel_rfl) (by kernel_rfl) (fun _ _ _ h => h) (by rfl) ?hy6x hHeld ?ry6x
        case hy6x => (intro w' hSw; (try dsimp only at hSw); go_simp <;> with_reducible rfl)
        try simp only [Act.put, List.setIfInBounds_toArray, List.set_cons_zero, List.set_cons_succ]
        have hSl1 : (W1.alloc (.cells #[.int .i64 0, .string ⟨#[]⟩] 23)).cell? ⟨ab, 0, none⟩ = some (.string a) ∧ (W1.alloc (.cells #[.int .i64 0, .string ⟨#[]⟩] 23)).cell? ⟨ab, 1, none⟩ = some (.string b) := ⟨kept (below_new W1 (.cells #[.int .i64 0, .string ⟨#[]⟩] 23)) hHeld.1, kept (below_new W1 (.cells #[.int .i64 0, .string ⟨#[]⟩] 23)) hHeld.2⟩
        refine call_turn_op (i := 3) (di := 15) (OPi := Op.call { callee := Callee.value (Operand.func 94), args := #[Operand.tmp 14], argTypes := #[9] }) (Ti := 2) (j := 8) (dj := 5) (OPj := Op.alloc 23) (Tj := 0) (f := 94) (args := #[.string a]) (u := .pointer (some ⟨W1.heap.size, 0, none⟩)) (w' := W1.alloc (.cells #[.int .i64 0, .string ⟨#[]⟩] 23)) rfl rfl rfl rfl rfl rfl rfl rfl (by kernel_rfl) (by rfl) (by rfl) (by go_simp) exec_alloc23 hSl1 ?_ ?_
        · refine (h94a _ hD).mono ?_
          rintro e v1 ⟨rfl, bb⟩
          have hS2 : v1.cell? ⟨ab, 0, none⟩ = some (.string a) ∧ v1.cell? ⟨ab, 1, none⟩ = some (.string b) := ⟨kept bb hHeld.1, kept bb hHeld.2⟩
          clear hSl1
          replace hD := hD.trans (bb.mono hD.size)
          replace hQ := hQ.trans (bb.mono hz)
          replace hz := Nat.le_trans hz bb.size
          replace haz := Nat.lt_of_lt_of_le haz bb.size
          refine ⟨_, rfl, hS2, ?_⟩
          replace hHeld := hS2
          clear hS2 bb
          try simp only [Act.put, List.setIfInBounds_toArray, List.set_cons_zero, List.set_cons_succ]
          refine take_op (i := 7) (d := 19) (OP := Op.build 23 #[(0, Operand.tmp 15), (1, Operand.tmp 18)]) (T := 23) (v := ?vy7x) rfl rfl rfl rfl (by kernel_rfl) (by kernel_rfl) (by kernel_rfl) (fun _ _ _ h => h) (by rfl) ?hy7x hHeld ?ry7x
          case hy7x => (intro w' hSw; (try dsimp only at hSw); go_simp <;> with_reducible rfl)
          try simp only [Act.put, List.setIfInBounds_toArray, List.set_cons_zero, List.set_cons_succ]
          have hSl2 : (v1.alloc (.cells #[.int .i64 0, .string ⟨#[]⟩] 23)).cell? ⟨ab, 0, none⟩ = some (.string a) ∧ (v1.alloc (.cells #[.int .i64 0, .string ⟨#[]⟩] 23)).cell? ⟨ab, 1, none⟩ = some (.string b) := ⟨kept (below_new v1 (.cells #[.int .i64 0, .string ⟨#[]⟩] 23)) hHeld.1, kept (below_new v1 (.cells #[.int .i64 0, .string ⟨#[]⟩] 23)) hHeld.2⟩
          refine turn_op (i := 8) (d := 5) (OP := Op.alloc 23) (T := 0) (v := .pointer (some ⟨v1.heap.size, 0, none⟩)) (w' := v1.alloc (.cells #[.int .i64 0, .string ⟨#[]⟩] 23)) rfl rfl rfl rfl (by kernel_rfl) (by rfl) (exec_alloc23) hSl2 ?_
          replace hHeld := hSl2
          try simp only [Act.put, List.setIfInBounds_toArray, List.set_cons_zero, List.set_cons_succ]
          have mP := heap_alloc_new v1 (.cells #[.int .i64 0, .string ⟨#[]⟩] 23)
          replace hD := hD.alloc hD.size (.cells #[.int .i64 0, .string ⟨#[]⟩] 23)
          replace hQ := hQ.alloc hz (.cells #[.int .i64 0, .string ⟨#[]⟩] 23)
          have hp : w.heap.size + 1 ≤ v1.heap.size := hz
          have hpz : v1.heap.size < (v1.alloc (.cells #[.int .i64 0, .string ⟨#[]⟩] 23)).heap.size := by simp
          replace hz : w.heap.size + 1 ≤ (v1.alloc (.cells #[.int .i64 0, .string ⟨#[]⟩] 23)).heap.size := by simp; omega
          clear hSl2
          have hab : ab < v1.heap.size := haz
          replace haz : ab < (v1.alloc (.cells #[.int .i64 0, .string ⟨#[]⟩] 23)).heap.size := by simp; omega
          generalize v1.heap.size = Pn at mP hp hpz hab ⊢
          generalize v1.alloc (.cells #[.int .i64 0, .string ⟨#[]⟩] 23) = x2 at hHeld mP hD hQ hz hpz haz ⊢
          obtain ⟨z0, z1, zf0, zf1⟩ := blk2 mP
          have hne : Pn ≠ ab := by omega
          have hx8 : ((x2.setCell ⟨Pn, 0, none⟩ (.int .i64 GA)).setCell ⟨Pn, 1, none⟩ (.string b)).cell? ⟨ab, 0, none⟩ = some (.string a) ∧ ((x2.setCell ⟨Pn, 0, none⟩ (.int .i64 GA)).setCell ⟨Pn, 1, none⟩ (.string b)).cell? ⟨ab, 1, none⟩ = some (.string b) := ⟨by rw [set2_other hne]; exact hHeld.1, by rw [set2_other hne]; exact hHeld.2⟩
          refine skip_op (i := 9) (OP := Op.store 23 (Operand.tmp 5) (Operand.tmp 19)) (T := 0) (w' := ((x2.setCell ⟨Pn, 0, none⟩ (.int .i64 GA)).setCell ⟨Pn, 1, none⟩ (.string b))) rfl rfl rfl rfl (by kernel_rfl) (by rfl) (by go_simp) ⟨hx8, ?_⟩
          refine wpAnyH_done (by kernel_rfl) ?_ _
          go_wp2
          go_meet
          exact ⟨Pn, rfl, hide ⟨set2 mP, bel2 (by omega) hD, bel2 hp hQ, by simp only [setCell_size]; omega⟩⟩
        · try simp only [Act.put, List.setIfInBounds_toArray, List.set_cons_zero, List.set_cons_succ]
          replace hHeld := hSl1
          have mP := heap_alloc_new W1 (.cells #[.int .i64 0, .string ⟨#[]⟩] 23)
          replace hD := hD.alloc hD.size (.cells #[.int .i64 0, .string ⟨#[]⟩] 23)
          replace hQ := hQ.alloc hz (.cells #[.int .i64 0, .string ⟨#[]⟩] 23)
          have hp : w.heap.size + 1 ≤ W1.heap.size := hz
          have hpz : W1.heap.size < (W1.alloc (.cells #[.int .i64 0, .string ⟨#[]⟩] 23)).heap.size := by simp
          replace hz : w.heap.size + 1 ≤ (W1.alloc (.cells #[.int .i64 0, .string ⟨#[]⟩] 23)).heap.size := by simp; omega
          clear hSl1
          have hab : ab < W1.heap.size := haz
          replace haz : ab < (W1.alloc (.cells #[.int .i64 0, .string ⟨#[]⟩] 23)).heap.size := by simp; omega
          generalize W1.heap.size = Pn at mP hp hpz hab ⊢
          generalize W1.alloc (.cells #[.int .i64 0, .string ⟨#[]⟩] 23) = x1 at hHeld mP hD hQ hz hpz haz ⊢
          refine call_op (i := 3) (d := 15) (OP := Op.call { callee := Callee.value (Operand.func 94), args := #[Operand.tmp 14], argTypes := #[9] }) (T := 2) (f := 94) (args := #[.string a]) rfl rfl rfl rfl (by kernel_rfl) (by rfl) (by go_simp) ?_
          refine (h94a _ hD).mono ?_
          rintro e v4 ⟨rfl, bb⟩
          have hS2 : v4.cell? ⟨ab, 0, none⟩ = some (.string a) ∧ v4.cell? ⟨ab, 1, none⟩ = some (.string b) := ⟨kept bb hHeld.1, kept bb hHeld.2⟩
          replace hD := hD.trans (bb.mono hD.size)
          replace hQ := hQ.trans (bb.mono hz)
          replace hz := Nat.le_trans hz bb.size
          replace haz := Nat.lt_of_lt_of_le haz bb.size
          replace mP := (bb.block _ hpz).trans mP
          replace hpz := Nat.lt_of_lt_of_le hpz bb.size
          clear bb
          refine ⟨_, rfl, hS2, ?_⟩
          replace hHeld := hS2
          try simp only [Act.put, List.setIfInBounds_toArray, List.set_cons_zero, List.set_cons_succ]
          clear hS2
          refine take_op (i := 7) (d := 19) (OP := Op.build 23 #[(0, Operand.tmp 15), (1, Operand.tmp 18)]) (T := 23) (v := ?vy8x) rfl rfl rfl rfl (by kernel_rfl) (by kernel_rfl) (by kernel_rfl) (fun _ _ _ h => h) (by rfl) ?hy8x hHeld ?ry8x
          case hy8x => (intro w' hSw; (try dsimp only at hSw); go_simp <;> with_reducible rfl)
          try simp only [Act.put, List.setIfInBounds_toArray, List.set_cons_zero, List.set_cons_succ]
          obtain ⟨z0, z1, zf0, zf1⟩ := blk2 mP
          have hne : Pn ≠ ab := by omega
          have hx8 : ((v4.setCell ⟨Pn, 0, none⟩ (.int .i64 GA)).setCell ⟨Pn, 1, none⟩ (.string b)).cell? ⟨ab, 0, none⟩ = some (.string a) ∧ ((v4.setCell ⟨Pn, 0, none⟩ (.int .i64 GA)).setCell ⟨Pn, 1, none⟩ (.string b)).cell? ⟨ab, 1, none⟩ = some (.string b) := ⟨by rw [set2_other hne]; exact hHeld.1, by rw [set2_other hne]; exact hHeld.2⟩
          refine skip_op (i := 9) (OP := Op.store 23 (Operand.tmp 5) (Operand.tmp 19)) (T := 0) (w' := ((v4.setCell ⟨Pn, 0, none⟩ (.int .i64 GA)).setCell ⟨Pn, 1, none⟩ (.string b))) rfl rfl rfl rfl (by kernel_rfl) (by rfl) (by go_simp) ⟨hx8, ?_⟩
          refine wpAnyH_done (by kernel_rfl) ?_ _
          go_wp2
          go_meet
          exact ⟨Pn, rfl, hide ⟨set2 mP, bel2 (by omega) hD, bel2 hp hQ, by simp only [setCell_size]; omega⟩⟩
    case rest =>
      clear hS1 hD hQ hz haz b1
      obtain ⟨Pn, rfl, HP⟩ := hcut
      obtain ⟨mP, hD, hQ, hz⟩ := HP.out
      obtain ⟨y0, y1, _, _⟩ := blk2 mP
      have hwz : w.heap.size + 1 ≤ wc.heap.size := by have := hQ.size; omega
      cases VV with
      | false =>
        have hpv : PV = false := by have := HV.out.1; simpa using this.symm
        obtain ⟨e0, e1, eE⟩ := HV.out.2.2 hpv
        have HEQ := hide (And.intro eE (And.intro e0 e1))
        clear eE e0 e1
        go_wp2_with (go_at_call 22; refine (hv _).mono ?_; rintro e w5 ⟨rfl, b5⟩; have HR := hide (hk w5 (hQ.trans (b5.mono hwz))); obtain ⟨z0, z1, zf0, zf1⟩ := blk2 HR.out; have hD5 := hD.trans (b5.mono hD.size); clear b5)
        refine ret_row_tmp w.heap.size [.int .i64 0, .string ⟨#[]⟩] rfl rfl rfl Tryz.underlying23 rfl (by kernel_rfl) (t := 23) (fr := (0, 0)) (set2 HR.out) rfl ?_
        exact ⟨by rw [HEQ.out.1, HEQ.out.2.1, HEQ.out.2.2] <;> rfl, bel2 (Nat.le_refl _) hD5⟩
      | true =>
        have hty := ht rfl
        clear ht
        by_cases hTs : TT = s
        · have hpv : PV = true := by have := HV.out.1; rw [← this]; simp [hTs]
          obtain ⟨e0, e1, eE⟩ := HV.out.2.1 hpv
          have HEQ := hide (And.intro eE (And.intro e0 e1))
          clear eE e0 e1
          subst hTs
          go_wp2_with (go_at_call 22; refine (hv _).mono ?_; rintro e w5 ⟨rfl, b5⟩; have mP5 := (b5.block _ hz).trans mP; have hD5 := hD.trans (b5.mono hD.size); have hQ5 := hQ.trans (b5.mono hwz); have hz5 := Nat.le_trans hwz b5.size; have hzP := Nat.lt_of_lt_of_le hz b5.size; clear y0 y1 b5; obtain ⟨y0, y1, _, _⟩ := blk2 mP5)
          go_wp2_with (go_at_call 30; refine (hty _ hD5).mono ?_; rintro e w6 ⟨rfl, b6⟩; have mP6 := (b6.block _ hzP).trans mP5; have HR := hide (hk w6 (hQ5.trans (b6.mono hz5))); have hD6 := hD5.trans (b6.mono hD5.size); clear y0 y1 b6; obtain ⟨y0, y1, _, _⟩ := blk2 mP6; obtain ⟨z0, z1, zf0, zf1⟩ := blk2 HR.out)
          refine ret_row_tmp w.heap.size [.int .i64 GA, .string b] rfl rfl rfl Tryz.underlying23 rfl (by kernel_rfl) (t := 23) (fr := (0, 0)) (set2 HR.out) rfl ?_
          exact ⟨by rw [HEQ.out.1, HEQ.out.2.1, HEQ.out.2.2] <;> rfl, bel2 (Nat.le_refl _) hD6⟩
        · have hpv : PV = false := by have := HV.out.1; rw [← this]; simp [hTs]
          obtain ⟨e0, e1, eE⟩ := HV.out.2.2 hpv
          have HEQ := hide (And.intro eE (And.intro e0 e1))
          clear eE e0 e1
          have hTn : (TT.toList == s.toList) = false := by rw [beq_eq_false_iff_ne, ByteArray.toList_eq, ByteArray.toList_eq]; exact fun h => hTs (ba_ext h)
          go_wp2_with (go_at_call 22; refine (hv _).mono ?_; rintro e w5 ⟨rfl, b5⟩; have mP5 := (b5.block _ hz).trans mP; have hD5 := hD.trans (b5.mono hD.size); have hQ5 := hQ.trans (b5.mono hwz); have hz5 := Nat.le_trans hwz b5.size; clear y0 y1 b5; obtain ⟨y0, y1, _, _⟩ := blk2 mP5)
          go_wp2_with (go_at_call 30; refine (hty _ hD5).mono ?_; rintro e w6 ⟨rfl, b6⟩; have HR := hide (hk w6 (hQ5.trans (b6.mono hz5))); have hD6 := hD5.trans (b6.mono hD5.size); clear b6; obtain ⟨z0, z1, zf0, zf1⟩ := blk2 HR.out)
          refine ret_row_tmp w.heap.size [.int .i64 0, .string ⟨#[]⟩] rfl rfl rfl Tryz.underlying23 rfl (by kernel_rfl) (t := 23) (fr := (0, 0)) (set2 HR.out) rfl ?_
          exact ⟨by rw [HEQ.out.1, HEQ.out.2.1, HEQ.out.2.2] <;> rfl, bel2 (Nat.le_refl _) hD6⟩
  · have hpv : PV = false := by rw [hPV]; exact db_ne hn
    obtain ⟨e0, e1, eE⟩ := hF hpv
    have HEQ := hide (And.intro eE (And.intro e0 e1))
    clear eE hF hPV hEe hpv hpl e0 hP0 e1 hP1
    generalize pcs s = PC at h93 hn
    have hn2 : ((PC.length : Int) == 2) = false := by rw [beq_eq_false_iff_ne]; omega
    clear hn
    go_enter Tryz.func43, Tryz.ntmps43
    go_wp2_with (go_at_call 93; refine h93.mono ?_; rintro e w1 ⟨v, rfl, hO, b1⟩; obtain ⟨ao, cc, rfl, -, -, -, -⟩ := hO.shape; have HR := hide (hk w1 (b1.mono (by omega))); obtain ⟨z0, z1, zf0, zf1⟩ := blk2 HR.out; have hD5 := hb.trans (b1.mono hb.size); clear hO b1)
    refine ret_row_tmp w.heap.size [.int .i64 0, .string ⟨#[]⟩] rfl rfl rfl Tryz.underlying23 rfl (by kernel_rfl) (t := 23) (fr := (0, 0)) (set2 HR.out) rfl ?_
    exact ⟨by rw [HEQ.out.1, HEQ.out.2.1, HEQ.out.2.2] <;> rfl, bel2 (Nat.le_refl _) hD5⟩
end Go.Proofs.YtkjabnpniingnaaGreatDoor
