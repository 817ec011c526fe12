/-
  KindsThree's region 3: three copies in a row, and boxes that may be made at any time.
  KindsThree 5: the walk.
-/
import Derived.Test.YtkdgageljgfgoaaGreatDoorLeft
import Derived.Test.YtkdgageljgfgoaaGreatDoorDone9
import Derived.Test.YtkdgageljgfgoaaGreatDoorRefThree
import Derived.Test.YtkdgageljgfgoaaGreatDoorTogC
import Derived.Test.YtkdgageljgfgoaaGreatDoorOpenV
import Derived.BigCall
import Derived.BigGuard
import Derived.BigGuardPart
import Derived.BigRegion
namespace Go.Proofs.YtkdgageljgfgoaaGreatDoor
open Go.RowKit Go.Shelf
set_option linter.unusedSimpArgs false

/-- The row of a value is ahead of D. -/
def Lt (v : Value) (D : Nat) : Prop := ∀ (k n : Int) (g m c : Nat), v = vv k n (some ⟨g, 0, none⟩) m c → g < D
/-- The region's operations. -/
def ops_t3 : Array Oper := #[{ dst := some 20, op := Go.Op.indexAddr 66 (Go.Operand.tmp 1) (Go.Operand.const (Go.Value.int Go.IntKind.i64 0)), type := 0, pos := "law.go:128", after := #[], guard := none }, { dst := some 21, op := Go.Op.load 46 (Go.Operand.tmp 20), type := 46, pos := "law.go:128", after := #[{ on := 0, ground := Go.Ground.data }], guard := none }, { dst := some 22, op := Go.Op.call { callee := Go.Callee.value (Go.Operand.func 22), args := #[Go.Operand.tmp 21], argTypes := #[46] }, type := 46, pos := "law.go:128", after := #[{ on := 1, ground := Go.Ground.data }], guard := none }, { dst := some 23, op := Go.Op.indexAddr 66 (Go.Operand.tmp 1) (Go.Operand.const (Go.Value.int Go.IntKind.i64 1)), type := 0, pos := "law.go:128", after := #[], guard := none }, { dst := some 24, op := Go.Op.load 46 (Go.Operand.tmp 23), type := 46, pos := "law.go:128", after := #[{ on := 3, ground := Go.Ground.data }], guard := none }, { dst := some 25, op := Go.Op.call { callee := Go.Callee.value (Go.Operand.func 22), args := #[Go.Operand.tmp 24], argTypes := #[46] }, type := 46, pos := "law.go:128", after := #[{ on := 4, ground := Go.Ground.data }, { on := 2, ground := Go.Ground.chain }], guard := none }, { dst := some 26, op := Go.Op.indexAddr 66 (Go.Operand.tmp 1) (Go.Operand.const (Go.Value.int Go.IntKind.i64 2)), type := 0, pos := "law.go:128", after := #[], guard := none }, { dst := some 27, op := Go.Op.load 46 (Go.Operand.tmp 26), type := 46, pos := "law.go:128", after := #[{ on := 6, ground := Go.Ground.data }], guard := none }, { dst := some 28, op := Go.Op.call { callee := Go.Callee.value (Go.Operand.func 22), args := #[Go.Operand.tmp 27], argTypes := #[46] }, type := 46, pos := "law.go:128", after := #[{ on := 7, ground := Go.Ground.data }, { on := 5, ground := Go.Ground.chain }], guard := none }, { dst := some 3, op := Go.Op.alloc 46, type := 0, pos := "law.go:128", after := #[], guard := none }, { dst := some 4, op := Go.Op.alloc 46, type := 0, pos := "law.go:128", after := #[], guard := none }, { dst := some 5, op := Go.Op.alloc 46, type := 0, pos := "law.go:128", after := #[], guard := none }, { dst := none, op := Go.Op.store 46 (Go.Operand.tmp 3) (Go.Operand.tmp 22), type := 0, pos := "law.go:128", after := #[{ on := 9, ground := Go.Ground.data }, { on := 2, ground := Go.Ground.data }, { on := 8, ground := Go.Ground.chain }, { on := 0, ground := Go.Ground.phase }, { on := 1, ground := Go.Ground.phase }, { on := 2, ground := Go.Ground.phase }, { on := 3, ground := Go.Ground.textOnly Go.Departure.lateStores }, { on := 4, ground := Go.Ground.textOnly Go.Departure.lateStores }, { on := 5, ground := Go.Ground.textOnly Go.Departure.lateStoresUnsure }, { on := 6, ground := Go.Ground.textOnly Go.Departure.lateStores }, { on := 7, ground := Go.Ground.textOnly Go.Departure.lateStores }, { on := 8, ground := Go.Ground.textOnly Go.Departure.lateStoresUnsure }, { on := 9, ground := Go.Ground.phase }, { on := 10, ground := Go.Ground.phase }, { on := 11, ground := Go.Ground.phase }], guard := none }, { dst := none, op := Go.Op.store 46 (Go.Operand.tmp 4) (Go.Operand.tmp 25), type := 0, pos := "law.go:128", after := #[{ on := 10, ground := Go.Ground.data }, { on := 5, ground := Go.Ground.data }, { on := 12, ground := Go.Ground.chain }, { on := 0, ground := Go.Ground.phase }, { on := 1, ground := Go.Ground.phase }, { on := 2, ground := Go.Ground.phase }, { on := 3, ground := Go.Ground.phase }, { on := 4, ground := Go.Ground.phase }, { on := 5, ground := Go.Ground.phase }, { on := 6, ground := Go.Ground.textOnly Go.Departure.lateStores }, { on := 7, ground := Go.Ground.textOnly Go.Departure.lateStores }, { on := 8, ground := Go.Ground.textOnly Go.Departure.lateStoresUnsure }, { on := 9, ground := Go.Ground.phase }, { on := 10, ground := Go.Ground.phase }, { on := 11, ground := Go.Ground.phase }, { on := 12, ground := Go.Ground.phase }], guard := none }, { dst := none, op := Go.Op.store 46 (Go.Operand.tmp 5) (Go.Operand.tmp 28), type := 0, pos := "law.go:128", after := #[{ on := 11, ground := Go.Ground.data }, { on := 8, ground := Go.Ground.data }, { on := 13, ground := Go.Ground.chain }, { on := 0, ground := Go.Ground.phase }, { on := 1, ground := Go.Ground.phase }, { on := 2, ground := Go.Ground.phase }, { on := 3, ground := Go.Ground.phase }, { on := 4, ground := Go.Ground.phase }, { on := 5, ground := Go.Ground.phase }, { on := 6, ground := Go.Ground.phase }, { on := 7, ground := Go.Ground.phase }, { on := 8, ground := Go.Ground.phase }, { on := 9, ground := Go.Ground.phase }, { on := 10, ground := Go.Ground.phase }, { on := 11, ground := Go.Ground.phase }, { on := 12, ground := Go.Ground.phase }, { on := 13, ground := Go.Ground.phase }], guard := none }]
set_option maxHeartbeats 4000000 in
theorem t3_any {Q : Exit → Act → World → Prop} {S : World → Prop} {a : Act} {w0 : World} {x2_0 x5_0 x8_0 : Value} {C2 C5 C8 : Nat → Value → World → Prop}
    (e2_0 : a.eval (.tmp 21) = x2_0) (e5_0 : a.eval (.tmp 24) = x5_0) (e8_0 : a.eval (.tmp 27) = x8_0)
    (hS : ∀ W, Below w0.heap.size w0 W → S W)
    (c2 : ∀ W, Below w0.heap.size w0 W → Calls Tryz.prog 22 #[x2_0] W fun e w' => ∃ v, e = .returned v ∧ C2 W.heap.size v w' ∧ Below W.heap.size W w')
    (c5 : ∀ W, Below w0.heap.size w0 W → Calls Tryz.prog 22 #[x5_0] W fun e w' => ∃ v, e = .returned v ∧ C5 W.heap.size v w' ∧ Below W.heap.size W w')
    (c8 : ∀ W, Below w0.heap.size w0 W → Calls Tryz.prog 22 #[x8_0] W fun e w' => ∃ v, e = .returned v ∧ C8 W.heap.size v w' ∧ Below W.heap.size W w')
    (p2 : ∀ D v W W', C2 D v W → Below W.heap.size W W' → C2 D v W') (lt2 : ∀ D v W, C2 D v W → Lt v W.heap.size) (p5 : ∀ D v W W', C5 D v W → Below W.heap.size W W' → C5 D v W') (lt5 : ∀ D v W, C5 D v W → Lt v W.heap.size) (p8 : ∀ D v W W', C8 D v W → Below W.heap.size W W' → C8 D v W')
    (fin : ∀ (v2 : Value) (D2 : Nat) (v5 : Value) (D5 : Nat) (v8 : Value) (D8 : Nat) (B9 : Nat) (B10 : Nat) (B11 : Nat) (W : World), Below w0.heap.size w0 W → C2 D2 v2 W → C5 D5 v5 W → C8 D8 v8 W → w0.heap.size ≤ D2 → w0.heap.size ≤ D5 → w0.heap.size ≤ D8 → Lt v2 D5 → Lt v2 D8 → Lt v5 D8 → W.heap[B9]? = some (.cells #[.int .i64 0, .int .i64 0, .slice none 0 0] 46) → W.heap[B10]? = some (.cells #[.int .i64 0, .int .i64 0, .slice none 0 0] 46) → W.heap[B11]? = some (.cells #[.int .i64 0, .int .i64 0, .slice none 0 0] 46) → w0.heap.size ≤ B9 → w0.heap.size ≤ B10 → w0.heap.size ≤ B11 → B9 ≠ B10 → B9 ≠ B11 → B10 ≠ B11 → wpAnyH Tryz.prog .any ops_t3 Q S 3 #[true, true, true, true, true, true, true, true, true, true, true, true, false, false, false] ((((((a.put (some 22) v2).put (some 25) v5).put (some 28) v8).put (some 3) (.pointer (some ⟨B9, 0, none⟩))).put (some 4) (.pointer (some ⟨B10, 0, none⟩))).put (some 5) (.pointer (some ⟨B11, 0, none⟩))) W) (W : World) (hW : Below w0.heap.size w0 W) :
    wpAnyH Tryz.prog .any ops_t3 Q S 9 #[true, true, false, true, true, false, true, true, false, false, false, false, false, false, false] a W := by
  have zr : ∀ (W W' : World) (B : Nat) (o : Obj), W.heap[B]? = some o → Below W.heap.size W W' → W'.heap[B]? = some o := fun W W' B o h hb => (hb.block _ (Array.getElem?_eq_some_iff.1 h).1).trans h
  have zl : ∀ (W : World) (B : Nat) (o : Obj), W.heap[B]? = some o → B < W.heap.size := fun W B o h => (Array.getElem?_eq_some_iff.1 h).1
  have za : ∀ W : World, Below W.heap.size W (W.alloc (.cells #[.int .i64 0, .int .i64 0, .slice none 0 0] 46)) := fun W => (Below.refl _ W).alloc (Nat.le_refl _) _
  have h301_ : ∀ (v2 : Value) (D2 : Nat) (v5 : Value) (D5 : Nat) (v8 : Value) (D8 : Nat) (B9 : Nat) (B10 : Nat) (W : World), Below w0.heap.size w0 W → C2 D2 v2 W → C5 D5 v5 W → C8 D8 v8 W → w0.heap.size ≤ D2 → w0.heap.size ≤ D5 → w0.heap.size ≤ D8 → Lt v2 D5 → Lt v2 D8 → Lt v5 D8 → W.heap[B9]? = some (.cells #[.int .i64 0, .int .i64 0, .slice none 0 0] 46) → W.heap[B10]? = some (.cells #[.int .i64 0, .int .i64 0, .slice none 0 0] 46) → w0.heap.size ≤ B9 → w0.heap.size ≤ B10 → B9 ≠ B10 → wpAnyH Tryz.prog .any ops_t3 Q S 4 #[true, true, true, true, true, true, true, true, true, true, true, false, false, false, false] (((((a.put (some 22) v2).put (some 25) v5).put (some 28) v8).put (some 3) (.pointer (some ⟨B9, 0, none⟩))).put (some 4) (.pointer (some ⟨B10, 0, none⟩))) W := fun v2 D2 v5 D5 v8 D8 B9 B10 W hb g2 g5 g8 dl2 dl5 dl8 t2_5 t2_8 t5_8 r9 r10 l9 l10 n9_10 => by
    refine wpAnyH_ready (rs := [11]) (by kernel_rfl) (by simp) ?_
    refine AllReadyH.turn (d := 5) (OP := .alloc 46) (T := 0) (v := .pointer (some ⟨W.heap.size, 0, none⟩)) (w' := W.alloc (.cells #[.int .i64 0, .int .i64 0, .slice none 0 0] 46)) rfl rfl rfl rfl (by rfl) (by go_simp <;> rfl) (hS _ (hb.trans ((za W).mono hb.size))) ?_ ?_
    · exact fin v2 D2 v5 D5 v8 D8 B9 B10 W.heap.size _ (hb.trans ((za W).mono hb.size)) (p2 _ _ _ _ g2 (za W)) (p5 _ _ _ _ g5 (za W)) (p8 _ _ _ _ g8 (za W)) dl2 dl5 dl8 t2_5 t2_8 t5_8 (zr _ _ _ _ r9 (za W)) (zr _ _ _ _ r10 (za W)) (heap_alloc_new W _) l9 l10 hb.size n9_10 (fun e => by have := zl _ _ _ r9; omega) (fun e => by have := zl _ _ _ r10; omega)
    exact AllReadyH.nil
  have h302_ : ∀ (v2 : Value) (D2 : Nat) (v5 : Value) (D5 : Nat) (v8 : Value) (D8 : Nat) (B9 : Nat) (B11 : Nat) (W : World), Below w0.heap.size w0 W → C2 D2 v2 W → C5 D5 v5 W → C8 D8 v8 W → w0.heap.size ≤ D2 → w0.heap.size ≤ D5 → w0.heap.size ≤ D8 → Lt v2 D5 → Lt v2 D8 → Lt v5 D8 → W.heap[B9]? = some (.cells #[.int .i64 0, .int .i64 0, .slice none 0 0] 46) → W.heap[B11]? = some (.cells #[.int .i64 0, .int .i64 0, .slice none 0 0] 46) → w0.heap.size ≤ B9 → w0.heap.size ≤ B11 → B9 ≠ B11 → wpAnyH Tryz.prog .any ops_t3 Q S 4 #[true, true, true, true, true, true, true, true, true, true, false, true, false, false, false] (((((a.put (some 22) v2).put (some 25) v5).put (some 28) v8).put (some 3) (.pointer (some ⟨B9, 0, none⟩))).put (some 5) (.pointer (some ⟨B11, 0, none⟩))) W := fun v2 D2 v5 D5 v8 D8 B9 B11 W hb g2 g5 g8 dl2 dl5 dl8 t2_5 t2_8 t5_8 r9 r11 l9 l11 n9_11 => by
    refine wpAnyH_ready (rs := [10]) (by kernel_rfl) (by simp) ?_
    refine AllReadyH.turn (d := 4) (OP := .alloc 46) (T := 0) (v := .pointer (some ⟨W.heap.size, 0, none⟩)) (w' := W.alloc (.cells #[.int .i64 0, .int .i64 0, .slice none 0 0] 46)) rfl rfl rfl rfl (by rfl) (by go_simp <;> rfl) (hS _ (hb.trans ((za W).mono hb.size))) ?_ ?_
    · rw [put_comm (show 5 ≠ 4 by decide)]
      exact fin v2 D2 v5 D5 v8 D8 B9 W.heap.size B11 _ (hb.trans ((za W).mono hb.size)) (p2 _ _ _ _ g2 (za W)) (p5 _ _ _ _ g5 (za W)) (p8 _ _ _ _ g8 (za W)) dl2 dl5 dl8 t2_5 t2_8 t5_8 (zr _ _ _ _ r9 (za W)) (heap_alloc_new W _) (zr _ _ _ _ r11 (za W)) l9 hb.size l11 (fun e => by have := zl _ _ _ r9; omega) n9_11 (fun e => by have := zl _ _ _ r11; omega)
    exact AllReadyH.nil
  have h312_ : ∀ (v2 : Value) (D2 : Nat) (v5 : Value) (D5 : Nat) (v8 : Value) (D8 : Nat) (B10 : Nat) (B11 : Nat) (W : World), Below w0.heap.size w0 W → C2 D2 v2 W → C5 D5 v5 W → C8 D8 v8 W → w0.heap.size ≤ D2 → w0.heap.size ≤ D5 → w0.heap.size ≤ D8 → Lt v2 D5 → Lt v2 D8 → Lt v5 D8 → W.heap[B10]? = some (.cells #[.int .i64 0, .int .i64 0, .slice none 0 0] 46) → W.heap[B11]? = some (.cells #[.int .i64 0, .int .i64 0, .slice none 0 0] 46) → w0.heap.size ≤ B10 → w0.heap.size ≤ B11 → B10 ≠ B11 → wpAnyH Tryz.prog .any ops_t3 Q S 4 #[true, true, true, true, true, true, true, true, true, false, true, true, false, false, false] (((((a.put (some 22) v2).put (some 25) v5).put (some 28) v8).put (some 4) (.pointer (some ⟨B10, 0, none⟩))).put (some 5) (.pointer (some ⟨B11, 0, none⟩))) W := fun v2 D2 v5 D5 v8 D8 B10 B11 W hb g2 g5 g8 dl2 dl5 dl8 t2_5 t2_8 t5_8 r10 r11 l10 l11 n10_11 => by
    refine wpAnyH_ready (rs := [9]) (by kernel_rfl) (by simp) ?_
    refine AllReadyH.turn (d := 3) (OP := .alloc 46) (T := 0) (v := .pointer (some ⟨W.heap.size, 0, none⟩)) (w' := W.alloc (.cells #[.int .i64 0, .int .i64 0, .slice none 0 0] 46)) rfl rfl rfl rfl (by rfl) (by go_simp <;> rfl) (hS _ (hb.trans ((za W).mono hb.size))) ?_ ?_
    · rw [put_comm (show 5 ≠ 3 by decide), put_comm (show 4 ≠ 3 by decide)]
      exact fin v2 D2 v5 D5 v8 D8 W.heap.size B10 B11 _ (hb.trans ((za W).mono hb.size)) (p2 _ _ _ _ g2 (za W)) (p5 _ _ _ _ g5 (za W)) (p8 _ _ _ _ g8 (za W)) dl2 dl5 dl8 t2_5 t2_8 t5_8 (heap_alloc_new W _) (zr _ _ _ _ r10 (za W)) (zr _ _ _ _ r11 (za W)) hb.size l10 l11 (fun e => by have := zl _ _ _ r10; omega) (fun e => by have := zl _ _ _ r11; omega) n10_11
    exact AllReadyH.nil
  have h2012_ : ∀ (v2 : Value) (D2 : Nat) (v5 : Value) (D5 : Nat) (B9 : Nat) (B10 : Nat) (B11 : Nat) (W : World), Below w0.heap.size w0 W → C2 D2 v2 W → C5 D5 v5 W → w0.heap.size ≤ D2 → w0.heap.size ≤ D5 → Lt v2 D5 → W.heap[B9]? = some (.cells #[.int .i64 0, .int .i64 0, .slice none 0 0] 46) → W.heap[B10]? = some (.cells #[.int .i64 0, .int .i64 0, .slice none 0 0] 46) → W.heap[B11]? = some (.cells #[.int .i64 0, .int .i64 0, .slice none 0 0] 46) → w0.heap.size ≤ B9 → w0.heap.size ≤ B10 → w0.heap.size ≤ B11 → B9 ≠ B10 → B9 ≠ B11 → B10 ≠ B11 → wpAnyH Tryz.prog .any ops_t3 Q S 4 #[true, true, true, true, true, true, true, true, false, true, true, true, false, false, false] (((((a.put (some 22) v2).put (some 25) v5).put (some 3) (.pointer (some ⟨B9, 0, none⟩))).put (some 4) (.pointer (some ⟨B10, 0, none⟩))).put (some 5) (.pointer (some ⟨B11, 0, none⟩))) W := fun v2 D2 v5 D5 B9 B10 B11 W hb g2 g5 dl2 dl5 t2_5 r9 r10 r11 l9 l10 l11 n9_10 n9_11 n10_11 => by
    refine wpAnyH_ready (rs := [8]) (by kernel_rfl) (by simp) ?_
    refine AllReadyH.call (d := 28) (f := 22) (args := #[x8_0]) (OP := .call { callee := .value (.func 22), args := #[.tmp 27], argTypes := #[46] }) (T := 46) rfl rfl rfl rfl (by rfl) (by have h0 := e8_0; simp [Act.eval, go_sem] at h0; simp [execOp, resolve, invoke, go_sem, h0]) ?_ ?_
    · refine (c8 W hb).mono ?_
      rintro e w' ⟨v8, rfl, g8, b'⟩
      have hb' := hb.trans (b'.mono hb.size)
      refine ⟨_, rfl, hS _ hb', ?_⟩
      rw [put_comm (show 5 ≠ 28 by decide), put_comm (show 4 ≠ 28 by decide), put_comm (show 3 ≠ 28 by decide)]
      exact fin v2 D2 v5 D5 v8 W.heap.size B9 B10 B11 w' hb' (p2 _ _ _ _ g2 b') (p5 _ _ _ _ g5 b') g8 dl2 dl5 hb.size t2_5 (lt2 _ _ _ g2) (lt5 _ _ _ g5) (zr _ _ _ _ r9 b') (zr _ _ _ _ r10 b') (zr _ _ _ _ r11 b') l9 l10 l11 n9_10 n9_11 n10_11
    exact AllReadyH.nil
  have h30_ : ∀ (v2 : Value) (D2 : Nat) (v5 : Value) (D5 : Nat) (v8 : Value) (D8 : Nat) (B9 : Nat) (W : World), Below w0.heap.size w0 W → C2 D2 v2 W → C5 D5 v5 W → C8 D8 v8 W → w0.heap.size ≤ D2 → w0.heap.size ≤ D5 → w0.heap.size ≤ D8 → Lt v2 D5 → Lt v2 D8 → Lt v5 D8 → W.heap[B9]? = some (.cells #[.int .i64 0, .int .i64 0, .slice none 0 0] 46) → w0.heap.size ≤ B9 → wpAnyH Tryz.prog .any ops_t3 Q S 5 #[true, true, true, true, true, true, true, true, true, true, false, false, false, false, false] ((((a.put (some 22) v2).put (some 25) v5).put (some 28) v8).put (some 3) (.pointer (some ⟨B9, 0, none⟩))) W := fun v2 D2 v5 D5 v8 D8 B9 W hb g2 g5 g8 dl2 dl5 dl8 t2_5 t2_8 t5_8 r9 l9 => by
    refine wpAnyH_ready (rs := [10, 11]) (by kernel_rfl) (by simp) ?_
    refine AllReadyH.turn (d := 4) (OP := .alloc 46) (T := 0) (v := .pointer (some ⟨W.heap.size, 0, none⟩)) (w' := W.alloc (.cells #[.int .i64 0, .int .i64 0, .slice none 0 0] 46)) rfl rfl rfl rfl (by rfl) (by go_simp <;> rfl) (hS _ (hb.trans ((za W).mono hb.size))) ?_ ?_
    · exact h301_ v2 D2 v5 D5 v8 D8 B9 W.heap.size _ (hb.trans ((za W).mono hb.size)) (p2 _ _ _ _ g2 (za W)) (p5 _ _ _ _ g5 (za W)) (p8 _ _ _ _ g8 (za W)) dl2 dl5 dl8 t2_5 t2_8 t5_8 (zr _ _ _ _ r9 (za W)) (heap_alloc_new W _) l9 hb.size (fun e => by have := zl _ _ _ r9; omega)
    refine AllReadyH.turn (d := 5) (OP := .alloc 46) (T := 0) (v := .pointer (some ⟨W.heap.size, 0, none⟩)) (w' := W.alloc (.cells #[.int .i64 0, .int .i64 0, .slice none 0 0] 46)) rfl rfl rfl rfl (by rfl) (by go_simp <;> rfl) (hS _ (hb.trans ((za W).mono hb.size))) ?_ ?_
    · exact h302_ v2 D2 v5 D5 v8 D8 B9 W.heap.size _ (hb.trans ((za W).mono hb.size)) (p2 _ _ _ _ g2 (za W)) (p5 _ _ _ _ g5 (za W)) (p8 _ _ _ _ g8 (za W)) dl2 dl5 dl8 t2_5 t2_8 t5_8 (zr _ _ _ _ r9 (za W)) (heap_alloc_new W _) l9 hb.size (fun e => by have := zl _ _ _ r9; omega)
    exact AllReadyH.nil
  have h31_ : ∀ (v2 : Value) (D2 : Nat) (v5 : Value) (D5 : Nat) (v8 : Value) (D8 : Nat) (B10 : Nat) (W : World), Below w0.heap.size w0 W → C2 D2 v2 W → C5 D5 v5 W → C8 D8 v8 W → w0.heap.size ≤ D2 → w0.heap.size ≤ D5 → w0.heap.size ≤ D8 → Lt v2 D5 → Lt v2 D8 → Lt v5 D8 → W.heap[B10]? = some (.cells #[.int .i64 0, .int .i64 0, .slice none 0 0] 46) → w0.heap.size ≤ B10 → wpAnyH Tryz.prog .any ops_t3 Q S 5 #[true, true, true, true, true, true, true, true, true, false, true, false, false, false, false] ((((a.put (some 22) v2).put (some 25) v5).put (some 28) v8).put (some 4) (.pointer (some ⟨B10, 0, none⟩))) W := fun v2 D2 v5 D5 v8 D8 B10 W hb g2 g5 g8 dl2 dl5 dl8 t2_5 t2_8 t5_8 r10 l10 => by
    refine wpAnyH_ready (rs := [9, 11]) (by kernel_rfl) (by simp) ?_
    refine AllReadyH.turn (d := 3) (OP := .alloc 46) (T := 0) (v := .pointer (some ⟨W.heap.size, 0, none⟩)) (w' := W.alloc (.cells #[.int .i64 0, .int .i64 0, .slice none 0 0] 46)) rfl rfl rfl rfl (by rfl) (by go_simp <;> rfl) (hS _ (hb.trans ((za W).mono hb.size))) ?_ ?_
    · rw [put_comm (show 4 ≠ 3 by decide)]
      exact h301_ v2 D2 v5 D5 v8 D8 W.heap.size B10 _ (hb.trans ((za W).mono hb.size)) (p2 _ _ _ _ g2 (za W)) (p5 _ _ _ _ g5 (za W)) (p8 _ _ _ _ g8 (za W)) dl2 dl5 dl8 t2_5 t2_8 t5_8 (heap_alloc_new W _) (zr _ _ _ _ r10 (za W)) hb.size l10 (fun e => by have := zl _ _ _ r10; omega)
    refine AllReadyH.turn (d := 5) (OP := .alloc 46) (T := 0) (v := .pointer (some ⟨W.heap.size, 0, none⟩)) (w' := W.alloc (.cells #[.int .i64 0, .int .i64 0, .slice none 0 0] 46)) rfl rfl rfl rfl (by rfl) (by go_simp <;> rfl) (hS _ (hb.trans ((za W).mono hb.size))) ?_ ?_
    · exact h312_ v2 D2 v5 D5 v8 D8 B10 W.heap.size _ (hb.trans ((za W).mono hb.size)) (p2 _ _ _ _ g2 (za W)) (p5 _ _ _ _ g5 (za W)) (p8 _ _ _ _ g8 (za W)) dl2 dl5 dl8 t2_5 t2_8 t5_8 (zr _ _ _ _ r10 (za W)) (heap_alloc_new W _) l10 hb.size (fun e => by have := zl _ _ _ r10; omega)
    exact AllReadyH.nil
  have h32_ : ∀ (v2 : Value) (D2 : Nat) (v5 : Value) (D5 : Nat) (v8 : Value) (D8 : Nat) (B11 : Nat) (W : World), Below w0.heap.size w0 W → C2 D2 v2 W → C5 D5 v5 W → C8 D8 v8 W → w0.heap.size ≤ D2 → w0.heap.size ≤ D5 → w0.heap.size ≤ D8 → Lt v2 D5 → Lt v2 D8 → Lt v5 D8 → W.heap[B11]? = some (.cells #[.int .i64 0, .int .i64 0, .slice none 0 0] 46) → w0.heap.size ≤ B11 → wpAnyH Tryz.prog .any ops_t3 Q S 5 #[true, true, true, true, true, true, true, true, true, false, false, true, false, false, false] ((((a.put (some 22) v2).put (some 25) v5).put (some 28) v8).put (some 5) (.pointer (some ⟨B11, 0, none⟩))) W := fun v2 D2 v5 D5 v8 D8 B11 W hb g2 g5 g8 dl2 dl5 dl8 t2_5 t2_8 t5_8 r11 l11 => by
    refine wpAnyH_ready (rs := [9, 10]) (by kernel_rfl) (by simp) ?_
    refine AllReadyH.turn (d := 3) (OP := .alloc 46) (T := 0) (v := .pointer (some ⟨W.heap.size, 0, none⟩)) (w' := W.alloc (.cells #[.int .i64 0, .int .i64 0, .slice none 0 0] 46)) rfl rfl rfl rfl (by rfl) (by go_simp <;> rfl) (hS _ (hb.trans ((za W).mono hb.size))) ?_ ?_
    · rw [put_comm (show 5 ≠ 3 by decide)]
      exact h302_ v2 D2 v5 D5 v8 D8 W.heap.size B11 _ (hb.trans ((za W).mono hb.size)) (p2 _ _ _ _ g2 (za W)) (p5 _ _ _ _ g5 (za W)) (p8 _ _ _ _ g8 (za W)) dl2 dl5 dl8 t2_5 t2_8 t5_8 (heap_alloc_new W _) (zr _ _ _ _ r11 (za W)) hb.size l11 (fun e => by have := zl _ _ _ r11; omega)
    refine AllReadyH.turn (d := 4) (OP := .alloc 46) (T := 0) (v := .pointer (some ⟨W.heap.size, 0, none⟩)) (w' := W.alloc (.cells #[.int .i64 0, .int .i64 0, .slice none 0 0] 46)) rfl rfl rfl rfl (by rfl) (by go_simp <;> rfl) (hS _ (hb.trans ((za W).mono hb.size))) ?_ ?_
    · rw [put_comm (show 5 ≠ 4 by decide)]
      exact h312_ v2 D2 v5 D5 v8 D8 W.heap.size B11 _ (hb.trans ((za W).mono hb.size)) (p2 _ _ _ _ g2 (za W)) (p5 _ _ _ _ g5 (za W)) (p8 _ _ _ _ g8 (za W)) dl2 dl5 dl8 t2_5 t2_8 t5_8 (heap_alloc_new W _) (zr _ _ _ _ r11 (za W)) hb.size l11 (fun e => by have := zl _ _ _ r11; omega)
    exact AllReadyH.nil
  have h201_ : ∀ (v2 : Value) (D2 : Nat) (v5 : Value) (D5 : Nat) (B9 : Nat) (B10 : Nat) (W : World), Below w0.heap.size w0 W → C2 D2 v2 W → C5 D5 v5 W → w0.heap.size ≤ D2 → w0.heap.size ≤ D5 → Lt v2 D5 → W.heap[B9]? = some (.cells #[.int .i64 0, .int .i64 0, .slice none 0 0] 46) → W.heap[B10]? = some (.cells #[.int .i64 0, .int .i64 0, .slice none 0 0] 46) → w0.heap.size ≤ B9 → w0.heap.size ≤ B10 → B9 ≠ B10 → wpAnyH Tryz.prog .any ops_t3 Q S 5 #[true, true, true, true, true, true, true, true, false, true, true, false, false, false, false] ((((a.put (some 22) v2).put (some 25) v5).put (some 3) (.pointer (some ⟨B9, 0, none⟩))).put (some 4) (.pointer (some ⟨B10, 0, none⟩))) W := fun v2 D2 v5 D5 B9 B10 W hb g2 g5 dl2 dl5 t2_5 r9 r10 l9 l10 n9_10 => by
    refine wpAnyH_ready (rs := [8, 11]) (by kernel_rfl) (by simp) ?_
    refine AllReadyH.call (d := 28) (f := 22) (args := #[x8_0]) (OP := .call { callee := .value (.func 22), args := #[.tmp 27], argTypes := #[46] }) (T := 46) rfl rfl rfl rfl (by rfl) (by have h0 := e8_0; simp [Act.eval, go_sem] at h0; simp [execOp, resolve, invoke, go_sem, h0]) ?_ ?_
    · refine (c8 W hb).mono ?_
      rintro e w' ⟨v8, rfl, g8, b'⟩
      have hb' := hb.trans (b'.mono hb.size)
      refine ⟨_, rfl, hS _ hb', ?_⟩
      rw [put_comm (show 4 ≠ 28 by decide), put_comm (show 3 ≠ 28 by decide)]
      exact h301_ v2 D2 v5 D5 v8 W.heap.size B9 B10 w' hb' (p2 _ _ _ _ g2 b') (p5 _ _ _ _ g5 b') g8 dl2 dl5 hb.size t2_5 (lt2 _ _ _ g2) (lt5 _ _ _ g5) (zr _ _ _ _ r9 b') (zr _ _ _ _ r10 b') l9 l10 n9_10
    refine AllReadyH.turn (d := 5) (OP := .alloc 46) (T := 0) (v := .pointer (some ⟨W.heap.size, 0, none⟩)) (w' := W.alloc (.cells #[.int .i64 0, .int .i64 0, .slice none 0 0] 46)) rfl rfl rfl rfl (by rfl) (by go_simp <;> rfl) (hS _ (hb.trans ((za W).mono hb.size))) ?_ ?_
    · exact h2012_ v2 D2 v5 D5 B9 B10 W.heap.size _ (hb.trans ((za W).mono hb.size)) (p2 _ _ _ _ g2 (za W)) (p5 _ _ _ _ g5 (za W)) dl2 dl5 t2_5 (zr _ _ _ _ r9 (za W)) (zr _ _ _ _ r10 (za W)) (heap_alloc_new W _) l9 l10 hb.size n9_10 (fun e => by have := zl _ _ _ r9; omega) (fun e => by have := zl _ _ _ r10; omega)
    exact AllReadyH.nil
  have h202_ : ∀ (v2 : Value) (D2 : Nat) (v5 : Value) (D5 : Nat) (B9 : Nat) (B11 : Nat) (W : World), Below w0.heap.size w0 W → C2 D2 v2 W → C5 D5 v5 W → w0.heap.size ≤ D2 → w0.heap.size ≤ D5 → Lt v2 D5 → W.heap[B9]? = some (.cells #[.int .i64 0, .int .i64 0, .slice none 0 0] 46) → W.heap[B11]? = some (.cells #[.int .i64 0, .int .i64 0, .slice none 0 0] 46) → w0.heap.size ≤ B9 → w0.heap.size ≤ B11 → B9 ≠ B11 → wpAnyH Tryz.prog .any ops_t3 Q S 5 #[true, true, true, true, true, true, true, true, false, true, false, true, false, false, false] ((((a.put (some 22) v2).put (some 25) v5).put (some 3) (.pointer (some ⟨B9, 0, none⟩))).put (some 5) (.pointer (some ⟨B11, 0, none⟩))) W := fun v2 D2 v5 D5 B9 B11 W hb g2 g5 dl2 dl5 t2_5 r9 r11 l9 l11 n9_11 => by
    refine wpAnyH_ready (rs := [8, 10]) (by kernel_rfl) (by simp) ?_
    refine AllReadyH.call (d := 28) (f := 22) (args := #[x8_0]) (OP := .call { callee := .value (.func 22), args := #[.tmp 27], argTypes := #[46] }) (T := 46) rfl rfl rfl rfl (by rfl) (by have h0 := e8_0; simp [Act.eval, go_sem] at h0; simp [execOp, resolve, invoke, go_sem, h0]) ?_ ?_
    · refine (c8 W hb).mono ?_
      rintro e w' ⟨v8, rfl, g8, b'⟩
      have hb' := hb.trans (b'.mono hb.size)
      refine ⟨_, rfl, hS _ hb', ?_⟩
      rw [put_comm (show 5 ≠ 28 by decide), put_comm (show 3 ≠ 28 by decide)]
      exact h302_ v2 D2 v5 D5 v8 W.heap.size B9 B11 w' hb' (p2 _ _ _ _ g2 b') (p5 _ _ _ _ g5 b') g8 dl2 dl5 hb.size t2_5 (lt2 _ _ _ g2) (lt5 _ _ _ g5) (zr _ _ _ _ r9 b') (zr _ _ _ _ r11 b') l9 l11 n9_11
    refine AllReadyH.turn (d := 4) (OP := .alloc 46) (T := 0) (v := .pointer (some ⟨W.heap.size, 0, none⟩)) (w' := W.alloc (.cells #[.int .i64 0, .int .i64 0, .slice none 0 0] 46)) rfl rfl rfl rfl (by rfl) (by go_simp <;> rfl) (hS _ (hb.trans ((za W).mono hb.size))) ?_ ?_
    · rw [put_comm (show 5 ≠ 4 by decide)]
      exact h2012_ v2 D2 v5 D5 B9 W.heap.size B11 _ (hb.trans ((za W).mono hb.size)) (p2 _ _ _ _ g2 (za W)) (p5 _ _ _ _ g5 (za W)) dl2 dl5 t2_5 (zr _ _ _ _ r9 (za W)) (heap_alloc_new W _) (zr _ _ _ _ r11 (za W)) l9 hb.size l11 (fun e => by have := zl _ _ _ r9; omega) n9_11 (fun e => by have := zl _ _ _ r11; omega)
    exact AllReadyH.nil
  have h212_ : ∀ (v2 : Value) (D2 : Nat) (v5 : Value) (D5 : Nat) (B10 : Nat) (B11 : Nat) (W : World), Below w0.heap.size w0 W → C2 D2 v2 W → C5 D5 v5 W → w0.heap.size ≤ D2 → w0.heap.size ≤ D5 → Lt v2 D5 → W.heap[B10]? = some (.cells #[.int .i64 0, .int .i64 0, .slice none 0 0] 46) → W.heap[B11]? = some (.cells #[.int .i64 0, .int .i64 0, .slice none 0 0] 46) → w0.heap.size ≤ B10 → w0.heap.size ≤ B11 → B10 ≠ B11 → wpAnyH Tryz.prog .any ops_t3 Q S 5 #[true, true, true, true, true, true, true, true, false, false, true, true, false, false, false] ((((a.put (some 22) v2).put (some 25) v5).put (some 4) (.pointer (some ⟨B10, 0, none⟩))).put (some 5) (.pointer (some ⟨B11, 0, none⟩))) W := fun v2 D2 v5 D5 B10 B11 W hb g2 g5 dl2 dl5 t2_5 r10 r11 l10 l11 n10_11 => by
    refine wpAnyH_ready (rs := [8, 9]) (by kernel_rfl) (by simp) ?_
    refine AllReadyH.call (d := 28) (f := 22) (args := #[x8_0]) (OP := .call { callee := .value (.func 22), args := #[.tmp 27], argTypes := #[46] }) (T := 46) rfl rfl rfl rfl (by rfl) (by have h0 := e8_0; simp [Act.eval, go_sem] at h0; simp [execOp, resolve, invoke, go_sem, h0]) ?_ ?_
    · refine (c8 W hb).mono ?_
      rintro e w' ⟨v8, rfl, g8, b'⟩
      have hb' := hb.trans (b'.mono hb.size)
      refine ⟨_, rfl, hS _ hb', ?_⟩
      rw [put_comm (show 5 ≠ 28 by decide), put_comm (show 4 ≠ 28 by decide)]
      exact h312_ v2 D2 v5 D5 v8 W.heap.size B10 B11 w' hb' (p2 _ _ _ _ g2 b') (p5 _ _ _ _ g5 b') g8 dl2 dl5 hb.size t2_5 (lt2 _ _ _ g2) (lt5 _ _ _ g5) (zr _ _ _ _ r10 b') (zr _ _ _ _ r11 b') l10 l11 n10_11
    refine AllReadyH.turn (d := 3) (OP := .alloc 46) (T := 0) (v := .pointer (some ⟨W.heap.size, 0, none⟩)) (w' := W.alloc (.cells #[.int .i64 0, .int .i64 0, .slice none 0 0] 46)) rfl rfl rfl rfl (by rfl) (by go_simp <;> rfl) (hS _ (hb.trans ((za W).mono hb.size))) ?_ ?_
    · rw [put_comm (show 5 ≠ 3 by decide), put_comm (show 4 ≠ 3 by decide)]
      exact h2012_ v2 D2 v5 D5 W.heap.size B10 B11 _ (hb.trans ((za W).mono hb.size)) (p2 _ _ _ _ g2 (za W)) (p5 _ _ _ _ g5 (za W)) dl2 dl5 t2_5 (heap_alloc_new W _) (zr _ _ _ _ r10 (za W)) (zr _ _ _ _ r11 (za W)) hb.size l10 l11 (fun e => by have := zl _ _ _ r10; omega) (fun e => by have := zl _ _ _ r11; omega) n10_11
    exact AllReadyH.nil
  have h1012_ : ∀ (v2 : Value) (D2 : Nat) (B9 : Nat) (B10 : Nat) (B11 : Nat) (W : World), Below w0.heap.size w0 W → C2 D2 v2 W → w0.heap.size ≤ D2 → W.heap[B9]? = some (.cells #[.int .i64 0, .int .i64 0, .slice none 0 0] 46) → W.heap[B10]? = some (.cells #[.int .i64 0, .int .i64 0, .slice none 0 0] 46) → W.heap[B11]? = some (.cells #[.int .i64 0, .int .i64 0, .slice none 0 0] 46) → w0.heap.size ≤ B9 → w0.heap.size ≤ B10 → w0.heap.size ≤ B11 → B9 ≠ B10 → B9 ≠ B11 → B10 ≠ B11 → wpAnyH Tryz.prog .any ops_t3 Q S 5 #[true, true, true, true, true, false, true, true, false, true, true, true, false, false, false] ((((a.put (some 22) v2).put (some 3) (.pointer (some ⟨B9, 0, none⟩))).put (some 4) (.pointer (some ⟨B10, 0, none⟩))).put (some 5) (.pointer (some ⟨B11, 0, none⟩))) W := fun v2 D2 B9 B10 B11 W hb g2 dl2 r9 r10 r11 l9 l10 l11 n9_10 n9_11 n10_11 => by
    refine wpAnyH_ready (rs := [5]) (by kernel_rfl) (by simp) ?_
    refine AllReadyH.call (d := 25) (f := 22) (args := #[x5_0]) (OP := .call { callee := .value (.func 22), args := #[.tmp 24], argTypes := #[46] }) (T := 46) rfl rfl rfl rfl (by rfl) (by have h0 := e5_0; simp [Act.eval, go_sem] at h0; simp [execOp, resolve, invoke, go_sem, h0]) ?_ ?_
    · refine (c5 W hb).mono ?_
      rintro e w' ⟨v5, rfl, g5, b'⟩
      have hb' := hb.trans (b'.mono hb.size)
      refine ⟨_, rfl, hS _ hb', ?_⟩
      rw [put_comm (show 5 ≠ 25 by decide), put_comm (show 4 ≠ 25 by decide), put_comm (show 3 ≠ 25 by decide)]
      exact h2012_ v2 D2 v5 W.heap.size B9 B10 B11 w' hb' (p2 _ _ _ _ g2 b') g5 dl2 hb.size (lt2 _ _ _ g2) (zr _ _ _ _ r9 b') (zr _ _ _ _ r10 b') (zr _ _ _ _ r11 b') l9 l10 l11 n9_10 n9_11 n10_11
    exact AllReadyH.nil
  have h3_ : ∀ (v2 : Value) (D2 : Nat) (v5 : Value) (D5 : Nat) (v8 : Value) (D8 : Nat) (W : World), Below w0.heap.size w0 W → C2 D2 v2 W → C5 D5 v5 W → C8 D8 v8 W → w0.heap.size ≤ D2 → w0.heap.size ≤ D5 → w0.heap.size ≤ D8 → Lt v2 D5 → Lt v2 D8 → Lt v5 D8 → wpAnyH Tryz.prog .any ops_t3 Q S 6 #[true, true, true, true, true, true, true, true, true, false, false, false, false, false, false] (((a.put (some 22) v2).put (some 25) v5).put (some 28) v8) W := fun v2 D2 v5 D5 v8 D8 W hb g2 g5 g8 dl2 dl5 dl8 t2_5 t2_8 t5_8 => by
    refine wpAnyH_ready (rs := [9, 10, 11]) (by kernel_rfl) (by simp) ?_
    refine AllReadyH.turn (d := 3) (OP := .alloc 46) (T := 0) (v := .pointer (some ⟨W.heap.size, 0, none⟩)) (w' := W.alloc (.cells #[.int .i64 0, .int .i64 0, .slice none 0 0] 46)) rfl rfl rfl rfl (by rfl) (by go_simp <;> rfl) (hS _ (hb.trans ((za W).mono hb.size))) ?_ ?_
    · exact h30_ v2 D2 v5 D5 v8 D8 W.heap.size _ (hb.trans ((za W).mono hb.size)) (p2 _ _ _ _ g2 (za W)) (p5 _ _ _ _ g5 (za W)) (p8 _ _ _ _ g8 (za W)) dl2 dl5 dl8 t2_5 t2_8 t5_8 (heap_alloc_new W _) hb.size
    refine AllReadyH.turn (d := 4) (OP := .alloc 46) (T := 0) (v := .pointer (some ⟨W.heap.size, 0, none⟩)) (w' := W.alloc (.cells #[.int .i64 0, .int .i64 0, .slice none 0 0] 46)) rfl rfl rfl rfl (by rfl) (by go_simp <;> rfl) (hS _ (hb.trans ((za W).mono hb.size))) ?_ ?_
    · exact h31_ v2 D2 v5 D5 v8 D8 W.heap.size _ (hb.trans ((za W).mono hb.size)) (p2 _ _ _ _ g2 (za W)) (p5 _ _ _ _ g5 (za W)) (p8 _ _ _ _ g8 (za W)) dl2 dl5 dl8 t2_5 t2_8 t5_8 (heap_alloc_new W _) hb.size
    refine AllReadyH.turn (d := 5) (OP := .alloc 46) (T := 0) (v := .pointer (some ⟨W.heap.size, 0, none⟩)) (w' := W.alloc (.cells #[.int .i64 0, .int .i64 0, .slice none 0 0] 46)) rfl rfl rfl rfl (by rfl) (by go_simp <;> rfl) (hS _ (hb.trans ((za W).mono hb.size))) ?_ ?_
    · exact h32_ v2 D2 v5 D5 v8 D8 W.heap.size _ (hb.trans ((za W).mono hb.size)) (p2 _ _ _ _ g2 (za W)) (p5 _ _ _ _ g5 (za W)) (p8 _ _ _ _ g8 (za W)) dl2 dl5 dl8 t2_5 t2_8 t5_8 (heap_alloc_new W _) hb.size
    exact AllReadyH.nil
  have h20_ : ∀ (v2 : Value) (D2 : Nat) (v5 : Value) (D5 : Nat) (B9 : Nat) (W : World), Below w0.heap.size w0 W → C2 D2 v2 W → C5 D5 v5 W → w0.heap.size ≤ D2 → w0.heap.size ≤ D5 → Lt v2 D5 → W.heap[B9]? = some (.cells #[.int .i64 0, .int .i64 0, .slice none 0 0] 46) → w0.heap.size ≤ B9 → wpAnyH Tryz.prog .any ops_t3 Q S 6 #[true, true, true, true, true, true, true, true, false, true, false, false, false, false, false] (((a.put (some 22) v2).put (some 25) v5).put (some 3) (.pointer (some ⟨B9, 0, none⟩))) W := fun v2 D2 v5 D5 B9 W hb g2 g5 dl2 dl5 t2_5 r9 l9 => by
    refine wpAnyH_ready (rs := [8, 10, 11]) (by kernel_rfl) (by simp) ?_
    refine AllReadyH.call (d := 28) (f := 22) (args := #[x8_0]) (OP := .call { callee := .value (.func 22), args := #[.tmp 27], argTypes := #[46] }) (T := 46) rfl rfl rfl rfl (by rfl) (by have h0 := e8_0; simp [Act.eval, go_sem] at h0; simp [execOp, resolve, invoke, go_sem, h0]) ?_ ?_
    · refine (c8 W hb).mono ?_
      rintro e w' ⟨v8, rfl, g8, b'⟩
      have hb' := hb.trans (b'.mono hb.size)
      refine ⟨_, rfl, hS _ hb', ?_⟩
      rw [put_comm (show 3 ≠ 28 by decide)]
      exact h30_ v2 D2 v5 D5 v8 W.heap.size B9 w' hb' (p2 _ _ _ _ g2 b') (p5 _ _ _ _ g5 b') g8 dl2 dl5 hb.size t2_5 (lt2 _ _ _ g2) (lt5 _ _ _ g5) (zr _ _ _ _ r9 b') l9
    refine AllReadyH.turn (d := 4) (OP := .alloc 46) (T := 0) (v := .pointer (some ⟨W.heap.size, 0, none⟩)) (w' := W.alloc (.cells #[.int .i64 0, .int .i64 0, .slice none 0 0] 46)) rfl rfl rfl rfl (by rfl) (by go_simp <;> rfl) (hS _ (hb.trans ((za W).mono hb.size))) ?_ ?_
    · exact h201_ v2 D2 v5 D5 B9 W.heap.size _ (hb.trans ((za W).mono hb.size)) (p2 _ _ _ _ g2 (za W)) (p5 _ _ _ _ g5 (za W)) dl2 dl5 t2_5 (zr _ _ _ _ r9 (za W)) (heap_alloc_new W _) l9 hb.size (fun e => by have := zl _ _ _ r9; omega)
    refine AllReadyH.turn (d := 5) (OP := .alloc 46) (T := 0) (v := .pointer (some ⟨W.heap.size, 0, none⟩)) (w' := W.alloc (.cells #[.int .i64 0, .int .i64 0, .slice none 0 0] 46)) rfl rfl rfl rfl (by rfl) (by go_simp <;> rfl) (hS _ (hb.trans ((za W).mono hb.size))) ?_ ?_
    · exact h202_ v2 D2 v5 D5 B9 W.heap.size _ (hb.trans ((za W).mono hb.size)) (p2 _ _ _ _ g2 (za W)) (p5 _ _ _ _ g5 (za W)) dl2 dl5 t2_5 (zr _ _ _ _ r9 (za W)) (heap_alloc_new W _) l9 hb.size (fun e => by have := zl _ _ _ r9; omega)
    exact AllReadyH.nil
  have h21_ : ∀ (v2 : Value) (D2 : Nat) (v5 : Value) (D5 : Nat) (B10 : Nat) (W : World), Below w0.heap.size w0 W → C2 D2 v2 W → C5 D5 v5 W → w0.heap.size ≤ D2 → w0.heap.size ≤ D5 → Lt v2 D5 → W.heap[B10]? = some (.cells #[.int .i64 0, .int .i64 0, .slice none 0 0] 46) → w0.heap.size ≤ B10 → wpAnyH Tryz.prog .any ops_t3 Q S 6 #[true, true, true, true, true, true, true, true, false, false, true, false, false, false, false] (((a.put (some 22) v2).put (some 25) v5).put (some 4) (.pointer (some ⟨B10, 0, none⟩))) W := fun v2 D2 v5 D5 B10 W hb g2 g5 dl2 dl5 t2_5 r10 l10 => by
    refine wpAnyH_ready (rs := [8, 9, 11]) (by kernel_rfl) (by simp) ?_
    refine AllReadyH.call (d := 28) (f := 22) (args := #[x8_0]) (OP := .call { callee := .value (.func 22), args := #[.tmp 27], argTypes := #[46] }) (T := 46) rfl rfl rfl rfl (by rfl) (by have h0 := e8_0; simp [Act.eval, go_sem] at h0; simp [execOp, resolve, invoke, go_sem, h0]) ?_ ?_
    · refine (c8 W hb).mono ?_
      rintro e w' ⟨v8, rfl, g8, b'⟩
      have hb' := hb.trans (b'.mono hb.size)
      refine ⟨_, rfl, hS _ hb', ?_⟩
      rw [put_comm (show 4 ≠ 28 by decide)]
      exact h31_ v2 D2 v5 D5 v8 W.heap.size B10 w' hb' (p2 _ _ _ _ g2 b') (p5 _ _ _ _ g5 b') g8 dl2 dl5 hb.size t2_5 (lt2 _ _ _ g2) (lt5 _ _ _ g5) (zr _ _ _ _ r10 b') l10
    refine AllReadyH.turn (d := 3) (OP := .alloc 46) (T := 0) (v := .pointer (some ⟨W.heap.size, 0, none⟩)) (w' := W.alloc (.cells #[.int .i64 0, .int .i64 0, .slice none 0 0] 46)) rfl rfl rfl rfl (by rfl) (by go_simp <;> rfl) (hS _ (hb.trans ((za W).mono hb.size))) ?_ ?_
    · rw [put_comm (show 4 ≠ 3 by decide)]
      exact h201_ v2 D2 v5 D5 W.heap.size B10 _ (hb.trans ((za W).mono hb.size)) (p2 _ _ _ _ g2 (za W)) (p5 _ _ _ _ g5 (za W)) dl2 dl5 t2_5 (heap_alloc_new W _) (zr _ _ _ _ r10 (za W)) hb.size l10 (fun e => by have := zl _ _ _ r10; omega)
    refine AllReadyH.turn (d := 5) (OP := .alloc 46) (T := 0) (v := .pointer (some ⟨W.heap.size, 0, none⟩)) (w' := W.alloc (.cells #[.int .i64 0, .int .i64 0, .slice none 0 0] 46)) rfl rfl rfl rfl (by rfl) (by go_simp <;> rfl) (hS _ (hb.trans ((za W).mono hb.size))) ?_ ?_
    · exact h212_ v2 D2 v5 D5 B10 W.heap.size _ (hb.trans ((za W).mono hb.size)) (p2 _ _ _ _ g2 (za W)) (p5 _ _ _ _ g5 (za W)) dl2 dl5 t2_5 (zr _ _ _ _ r10 (za W)) (heap_alloc_new W _) l10 hb.size (fun e => by have := zl _ _ _ r10; omega)
    exact AllReadyH.nil
  have h22_ : ∀ (v2 : Value) (D2 : Nat) (v5 : Value) (D5 : Nat) (B11 : Nat) (W : World), Below w0.heap.size w0 W → C2 D2 v2 W → C5 D5 v5 W → w0.heap.size ≤ D2 → w0.heap.size ≤ D5 → Lt v2 D5 → W.heap[B11]? = some (.cells #[.int .i64 0, .int .i64 0, .slice none 0 0] 46) → w0.heap.size ≤ B11 → wpAnyH Tryz.prog .any ops_t3 Q S 6 #[true, true, true, true, true, true, true, true, false, false, false, true, false, false, false] (((a.put (some 22) v2).put (some 25) v5).put (some 5) (.pointer (some ⟨B11, 0, none⟩))) W := fun v2 D2 v5 D5 B11 W hb g2 g5 dl2 dl5 t2_5 r11 l11 => by
    refine wpAnyH_ready (rs := [8, 9, 10]) (by kernel_rfl) (by simp) ?_
    refine AllReadyH.call (d := 28) (f := 22) (args := #[x8_0]) (OP := .call { callee := .value (.func 22), args := #[.tmp 27], argTypes := #[46] }) (T := 46) rfl rfl rfl rfl (by rfl) (by have h0 := e8_0; simp [Act.eval, go_sem] at h0; simp [execOp, resolve, invoke, go_sem, h0]) ?_ ?_
    · refine (c8 W hb).mono ?_
      rintro e w' ⟨v8, rfl, g8, b'⟩
      have hb' := hb.trans (b'.mono hb.size)
      refine ⟨_, rfl, hS _ hb', ?_⟩
      rw [put_comm (show 5 ≠ 28 by decide)]
      exact h32_ v2 D2 v5 D5 v8 W.heap.size B11 w' hb' (p2 _ _ _ _ g2 b') (p5 _ _ _ _ g5 b') g8 dl2 dl5 hb.size t2_5 (lt2 _ _ _ g2) (lt5 _ _ _ g5) (zr _ _ _ _ r11 b') l11
    refine AllReadyH.turn (d := 3) (OP := .alloc 46) (T := 0) (v := .pointer (some ⟨W.heap.size, 0, none⟩)) (w' := W.alloc (.cells #[.int .i64 0, .int .i64 0, .slice none 0 0] 46)) rfl rfl rfl rfl (by rfl) (by go_simp <;> rfl) (hS _ (hb.trans ((za W).mono hb.size))) ?_ ?_
    · rw [put_comm (show 5 ≠ 3 by decide)]
      exact h202_ v2 D2 v5 D5 W.heap.size B11 _ (hb.trans ((za W).mono hb.size)) (p2 _ _ _ _ g2 (za W)) (p5 _ _ _ _ g5 (za W)) dl2 dl5 t2_5 (heap_alloc_new W _) (zr _ _ _ _ r11 (za W)) hb.size l11 (fun e => by have := zl _ _ _ r11; omega)
    refine AllReadyH.turn (d := 4) (OP := .alloc 46) (T := 0) (v := .pointer (some ⟨W.heap.size, 0, none⟩)) (w' := W.alloc (.cells #[.int .i64 0, .int .i64 0, .slice none 0 0] 46)) rfl rfl rfl rfl (by rfl) (by go_simp <;> rfl) (hS _ (hb.trans ((za W).mono hb.size))) ?_ ?_
    · rw [put_comm (show 5 ≠ 4 by decide)]
      exact h212_ v2 D2 v5 D5 W.heap.size B11 _ (hb.trans ((za W).mono hb.size)) (p2 _ _ _ _ g2 (za W)) (p5 _ _ _ _ g5 (za W)) dl2 dl5 t2_5 (heap_alloc_new W _) (zr _ _ _ _ r11 (za W)) hb.size l11 (fun e => by have := zl _ _ _ r11; omega)
    exact AllReadyH.nil
  have h101_ : ∀ (v2 : Value) (D2 : Nat) (B9 : Nat) (B10 : Nat) (W : World), Below w0.heap.size w0 W → C2 D2 v2 W → w0.heap.size ≤ D2 → W.heap[B9]? = some (.cells #[.int .i64 0, .int .i64 0, .slice none 0 0] 46) → W.heap[B10]? = some (.cells #[.int .i64 0, .int .i64 0, .slice none 0 0] 46) → w0.heap.size ≤ B9 → w0.heap.size ≤ B10 → B9 ≠ B10 → wpAnyH Tryz.prog .any ops_t3 Q S 6 #[true, true, true, true, true, false, true, true, false, true, true, false, false, false, false] (((a.put (some 22) v2).put (some 3) (.pointer (some ⟨B9, 0, none⟩))).put (some 4) (.pointer (some ⟨B10, 0, none⟩))) W := fun v2 D2 B9 B10 W hb g2 dl2 r9 r10 l9 l10 n9_10 => by
    refine wpAnyH_ready (rs := [5, 11]) (by kernel_rfl) (by simp) ?_
    refine AllReadyH.call (d := 25) (f := 22) (args := #[x5_0]) (OP := .call { callee := .value (.func 22), args := #[.tmp 24], argTypes := #[46] }) (T := 46) rfl rfl rfl rfl (by rfl) (by have h0 := e5_0; simp [Act.eval, go_sem] at h0; simp [execOp, resolve, invoke, go_sem, h0]) ?_ ?_
    · refine (c5 W hb).mono ?_
      rintro e w' ⟨v5, rfl, g5, b'⟩
      have hb' := hb.trans (b'.mono hb.size)
      refine ⟨_, rfl, hS _ hb', ?_⟩
      rw [put_comm (show 4 ≠ 25 by decide), put_comm (show 3 ≠ 25 by decide)]
      exact h201_ v2 D2 v5 W.heap.size B9 B10 w' hb' (p2 _ _ _ _ g2 b') g5 dl2 hb.size (lt2 _ _ _ g2) (zr _ _ _ _ r9 b') (zr _ _ _ _ r10 b') l9 l10 n9_10
    refine AllReadyH.turn (d := 5) (OP := .alloc 46) (T := 0) (v := .pointer (some ⟨W.heap.size, 0, none⟩)) (w' := W.alloc (.cells #[.int .i64 0, .int .i64 0, .slice none 0 0] 46)) rfl rfl rfl rfl (by rfl) (by go_simp <;> rfl) (hS _ (hb.trans ((za W).mono hb.size))) ?_ ?_
    · exact h1012_ v2 D2 B9 B10 W.heap.size _ (hb.trans ((za W).mono hb.size)) (p2 _ _ _ _ g2 (za W)) dl2 (zr _ _ _ _ r9 (za W)) (zr _ _ _ _ r10 (za W)) (heap_alloc_new W _) l9 l10 hb.size n9_10 (fun e => by have := zl _ _ _ r9; omega) (fun e => by have := zl _ _ _ r10; omega)
    exact AllReadyH.nil
  have h102_ : ∀ (v2 : Value) (D2 : Nat) (B9 : Nat) (B11 : Nat) (W : World), Below w0.heap.size w0 W → C2 D2 v2 W → w0.heap.size ≤ D2 → W.heap[B9]? = some (.cells #[.int .i64 0, .int .i64 0, .slice none 0 0] 46) → W.heap[B11]? = some (.cells #[.int .i64 0, .int .i64 0, .slice none 0 0] 46) → w0.heap.size ≤ B9 → w0.heap.size ≤ B11 → B9 ≠ B11 → wpAnyH Tryz.prog .any ops_t3 Q S 6 #[true, true, true, true, true, false, true, true, false, true, false, true, false, false, false] (((a.put (some 22) v2).put (some 3) (.pointer (some ⟨B9, 0, none⟩))).put (some 5) (.pointer (some ⟨B11, 0, none⟩))) W := fun v2 D2 B9 B11 W hb g2 dl2 r9 r11 l9 l11 n9_11 => by
    refine wpAnyH_ready (rs := [5, 10]) (by kernel_rfl) (by simp) ?_
    refine AllReadyH.call (d := 25) (f := 22) (args := #[x5_0]) (OP := .call { callee := .value (.func 22), args := #[.tmp 24], argTypes := #[46] }) (T := 46) rfl rfl rfl rfl (by rfl) (by have h0 := e5_0; simp [Act.eval, go_sem] at h0; simp [execOp, resolve, invoke, go_sem, h0]) ?_ ?_
    · refine (c5 W hb).mono ?_
      rintro e w' ⟨v5, rfl, g5, b'⟩
      have hb' := hb.trans (b'.mono hb.size)
      refine ⟨_, rfl, hS _ hb', ?_⟩
      rw [put_comm (show 5 ≠ 25 by decide), put_comm (show 3 ≠ 25 by decide)]
      exact h202_ v2 D2 v5 W.heap.size B9 B11 w' hb' (p2 _ _ _ _ g2 b') g5 dl2 hb.size (lt2 _ _ _ g2) (zr _ _ _ _ r9 b') (zr _ _ _ _ r11 b') l9 l11 n9_11
    refine AllReadyH.turn (d := 4) (OP := .alloc 46) (T := 0) (v := .pointer (some ⟨W.heap.size, 0, none⟩)) (w' := W.alloc (.cells #[.int .i64 0, .int .i64 0, .slice none 0 0] 46)) rfl rfl rfl rfl (by rfl) (by go_simp <;> rfl) (hS _ (hb.trans ((za W).mono hb.size))) ?_ ?_
    · rw [put_comm (show 5 ≠ 4 by decide)]
      exact h1012_ v2 D2 B9 W.heap.size B11 _ (hb.trans ((za W).mono hb.size)) (p2 _ _ _ _ g2 (za W)) dl2 (zr _ _ _ _ r9 (za W)) (heap_alloc_new W _) (zr _ _ _ _ r11 (za W)) l9 hb.size l11 (fun e => by have := zl _ _ _ r9; omega) n9_11 (fun e => by have := zl _ _ _ r11; omega)
    exact AllReadyH.nil
  have h112_ : ∀ (v2 : Value) (D2 : Nat) (B10 : Nat) (B11 : Nat) (W : World), Below w0.heap.size w0 W → C2 D2 v2 W → w0.heap.size ≤ D2 → W.heap[B10]? = some (.cells #[.int .i64 0, .int .i64 0, .slice none 0 0] 46) → W.heap[B11]? = some (.cells #[.int .i64 0, .int .i64 0, .slice none 0 0] 46) → w0.heap.size ≤ B10 → w0.heap.size ≤ B11 → B10 ≠ B11 → wpAnyH Tryz.prog .any ops_t3 Q S 6 #[true, true, true, true, true, false, true, true, false, false, true, true, false, false, false] (((a.put (some 22) v2).put (some 4) (.pointer (some ⟨B10, 0, none⟩))).put (some 5) (.pointer (some ⟨B11, 0, none⟩))) W := fun v2 D2 B10 B11 W hb g2 dl2 r10 r11 l10 l11 n10_11 => by
    refine wpAnyH_ready (rs := [5, 9]) (by kernel_rfl) (by simp) ?_
    refine AllReadyH.call (d := 25) (f := 22) (args := #[x5_0]) (OP := .call { callee := .value (.func 22), args := #[.tmp 24], argTypes := #[46] }) (T := 46) rfl rfl rfl rfl (by rfl) (by have h0 := e5_0; simp [Act.eval, go_sem] at h0; simp [execOp, resolve, invoke, go_sem, h0]) ?_ ?_
    · refine (c5 W hb).mono ?_
      rintro e w' ⟨v5, rfl, g5, b'⟩
      have hb' := hb.trans (b'.mono hb.size)
      refine ⟨_, rfl, hS _ hb', ?_⟩
      rw [put_comm (show 5 ≠ 25 by decide), put_comm (show 4 ≠ 25 by decide)]
      exact h212_ v2 D2 v5 W.heap.size B10 B11 w' hb' (p2 _ _ _ _ g2 b') g5 dl2 hb.size (lt2 _ _ _ g2) (zr _ _ _ _ r10 b') (zr _ _ _ _ r11 b') l10 l11 n10_11
    refine AllReadyH.turn (d := 3) (OP := .alloc 46) (T := 0) (v := .pointer (some ⟨W.heap.size, 0, none⟩)) (w' := W.alloc (.cells #[.int .i64 0, .int .i64 0, .slice none 0 0] 46)) rfl rfl rfl rfl (by rfl) (by go_simp <;> rfl) (hS _ (hb.trans ((za W).mono hb.size))) ?_ ?_
    · rw [put_comm (show 5 ≠ 3 by decide), put_comm (show 4 ≠ 3 by decide)]
      exact h1012_ v2 D2 W.heap.size B10 B11 _ (hb.trans ((za W).mono hb.size)) (p2 _ _ _ _ g2 (za W)) dl2 (heap_alloc_new W _) (zr _ _ _ _ r10 (za W)) (zr _ _ _ _ r11 (za W)) hb.size l10 l11 (fun e => by have := zl _ _ _ r10; omega) (fun e => by have := zl _ _ _ r11; omega) n10_11
    exact AllReadyH.nil
  have h0012_ : ∀ (B9 : Nat) (B10 : Nat) (B11 : Nat) (W : World), Below w0.heap.size w0 W → W.heap[B9]? = some (.cells #[.int .i64 0, .int .i64 0, .slice none 0 0] 46) → W.heap[B10]? = some (.cells #[.int .i64 0, .int .i64 0, .slice none 0 0] 46) → W.heap[B11]? = some (.cells #[.int .i64 0, .int .i64 0, .slice none 0 0] 46) → w0.heap.size ≤ B9 → w0.heap.size ≤ B10 → w0.heap.size ≤ B11 → B9 ≠ B10 → B9 ≠ B11 → B10 ≠ B11 → wpAnyH Tryz.prog .any ops_t3 Q S 6 #[true, true, false, true, true, false, true, true, false, true, true, true, false, false, false] (((a.put (some 3) (.pointer (some ⟨B9, 0, none⟩))).put (some 4) (.pointer (some ⟨B10, 0, none⟩))).put (some 5) (.pointer (some ⟨B11, 0, none⟩))) W := fun B9 B10 B11 W hb r9 r10 r11 l9 l10 l11 n9_10 n9_11 n10_11 => by
    refine wpAnyH_ready (rs := [2]) (by kernel_rfl) (by simp) ?_
    refine AllReadyH.call (d := 22) (f := 22) (args := #[x2_0]) (OP := .call { callee := .value (.func 22), args := #[.tmp 21], argTypes := #[46] }) (T := 46) rfl rfl rfl rfl (by rfl) (by have h0 := e2_0; simp [Act.eval, go_sem] at h0; simp [execOp, resolve, invoke, go_sem, h0]) ?_ ?_
    · refine (c2 W hb).mono ?_
      rintro e w' ⟨v2, rfl, g2, b'⟩
      have hb' := hb.trans (b'.mono hb.size)
      refine ⟨_, rfl, hS _ hb', ?_⟩
      rw [put_comm (show 5 ≠ 22 by decide), put_comm (show 4 ≠ 22 by decide), put_comm (show 3 ≠ 22 by decide)]
      exact h1012_ v2 W.heap.size B9 B10 B11 w' hb' g2 hb.size (zr _ _ _ _ r9 b') (zr _ _ _ _ r10 b') (zr _ _ _ _ r11 b') l9 l10 l11 n9_10 n9_11 n10_11
    exact AllReadyH.nil
  have h2_ : ∀ (v2 : Value) (D2 : Nat) (v5 : Value) (D5 : Nat) (W : World), Below w0.heap.size w0 W → C2 D2 v2 W → C5 D5 v5 W → w0.heap.size ≤ D2 → w0.heap.size ≤ D5 → Lt v2 D5 → wpAnyH Tryz.prog .any ops_t3 Q S 7 #[true, true, true, true, true, true, true, true, false, false, false, false, false, false, false] ((a.put (some 22) v2).put (some 25) v5) W := fun v2 D2 v5 D5 W hb g2 g5 dl2 dl5 t2_5 => by
    refine wpAnyH_ready (rs := [8, 9, 10, 11]) (by kernel_rfl) (by simp) ?_
    refine AllReadyH.call (d := 28) (f := 22) (args := #[x8_0]) (OP := .call { callee := .value (.func 22), args := #[.tmp 27], argTypes := #[46] }) (T := 46) rfl rfl rfl rfl (by rfl) (by have h0 := e8_0; simp [Act.eval, go_sem] at h0; simp [execOp, resolve, invoke, go_sem, h0]) ?_ ?_
    · refine (c8 W hb).mono ?_
      rintro e w' ⟨v8, rfl, g8, b'⟩
      have hb' := hb.trans (b'.mono hb.size)
      refine ⟨_, rfl, hS _ hb', ?_⟩
      exact h3_ v2 D2 v5 D5 v8 W.heap.size w' hb' (p2 _ _ _ _ g2 b') (p5 _ _ _ _ g5 b') g8 dl2 dl5 hb.size t2_5 (lt2 _ _ _ g2) (lt5 _ _ _ g5)
    refine AllReadyH.turn (d := 3) (OP := .alloc 46) (T := 0) (v := .pointer (some ⟨W.heap.size, 0, none⟩)) (w' := W.alloc (.cells #[.int .i64 0, .int .i64 0, .slice none 0 0] 46)) rfl rfl rfl rfl (by rfl) (by go_simp <;> rfl) (hS _ (hb.trans ((za W).mono hb.size))) ?_ ?_
    · exact h20_ v2 D2 v5 D5 W.heap.size _ (hb.trans ((za W).mono hb.size)) (p2 _ _ _ _ g2 (za W)) (p5 _ _ _ _ g5 (za W)) dl2 dl5 t2_5 (heap_alloc_new W _) hb.size
    refine AllReadyH.turn (d := 4) (OP := .alloc 46) (T := 0) (v := .pointer (some ⟨W.heap.size, 0, none⟩)) (w' := W.alloc (.cells #[.int .i64 0, .int .i64 0, .slice none 0 0] 46)) rfl rfl rfl rfl (by rfl) (by go_simp <;> rfl) (hS _ (hb.trans ((za W).mono hb.size))) ?_ ?_
    · exact h21_ v2 D2 v5 D5 W.heap.size _ (hb.trans ((za W).mono hb.size)) (p2 _ _ _ _ g2 (za W)) (p5 _ _ _ _ g5 (za W)) dl2 dl5 t2_5 (heap_alloc_new W _) hb.size
    refine AllReadyH.turn (d := 5) (OP := .alloc 46) (T := 0) (v := .pointer (some ⟨W.heap.size, 0, none⟩)) (w' := W.alloc (.cells #[.int .i64 0, .int .i64 0, .slice none 0 0] 46)) rfl rfl rfl rfl (by rfl) (by go_simp <;> rfl) (hS _ (hb.trans ((za W).mono hb.size))) ?_ ?_
    · exact h22_ v2 D2 v5 D5 W.heap.size _ (hb.trans ((za W).mono hb.size)) (p2 _ _ _ _ g2 (za W)) (p5 _ _ _ _ g5 (za W)) dl2 dl5 t2_5 (heap_alloc_new W _) hb.size
    exact AllReadyH.nil
  have h10_ : ∀ (v2 : Value) (D2 : Nat) (B9 : Nat) (W : World), Below w0.heap.size w0 W → C2 D2 v2 W → w0.heap.size ≤ D2 → W.heap[B9]? = some (.cells #[.int .i64 0, .int .i64 0, .slice none 0 0] 46) → w0.heap.size ≤ B9 → wpAnyH Tryz.prog .any ops_t3 Q S 7 #[true, true, true, true, true, false, true, true, false, true, false, false, false, false, false] ((a.put (some 22) v2).put (some 3) (.pointer (some ⟨B9, 0, none⟩))) W := fun v2 D2 B9 W hb g2 dl2 r9 l9 => by
    refine wpAnyH_ready (rs := [5, 10, 11]) (by kernel_rfl) (by simp) ?_
    refine AllReadyH.call (d := 25) (f := 22) (args := #[x5_0]) (OP := .call { callee := .value (.func 22), args := #[.tmp 24], argTypes := #[46] }) (T := 46) rfl rfl rfl rfl (by rfl) (by have h0 := e5_0; simp [Act.eval, go_sem] at h0; simp [execOp, resolve, invoke, go_sem, h0]) ?_ ?_
    · refine (c5 W hb).mono ?_
      rintro e w' ⟨v5, rfl, g5, b'⟩
      have hb' := hb.trans (b'.mono hb.size)
      refine ⟨_, rfl, hS _ hb', ?_⟩
      rw [put_comm (show 3 ≠ 25 by decide)]
      exact h20_ v2 D2 v5 W.heap.size B9 w' hb' (p2 _ _ _ _ g2 b') g5 dl2 hb.size (lt2 _ _ _ g2) (zr _ _ _ _ r9 b') l9
    refine AllReadyH.turn (d := 4) (OP := .alloc 46) (T := 0) (v := .pointer (some ⟨W.heap.size, 0, none⟩)) (w' := W.alloc (.cells #[.int .i64 0, .int .i64 0, .slice none 0 0] 46)) rfl rfl rfl rfl (by rfl) (by go_simp <;> rfl) (hS _ (hb.trans ((za W).mono hb.size))) ?_ ?_
    · exact h101_ v2 D2 B9 W.heap.size _ (hb.trans ((za W).mono hb.size)) (p2 _ _ _ _ g2 (za W)) dl2 (zr _ _ _ _ r9 (za W)) (heap_alloc_new W _) l9 hb.size (fun e => by have := zl _ _ _ r9; omega)
    refine AllReadyH.turn (d := 5) (OP := .alloc 46) (T := 0) (v := .pointer (some ⟨W.heap.size, 0, none⟩)) (w' := W.alloc (.cells #[.int .i64 0, .int .i64 0, .slice none 0 0] 46)) rfl rfl rfl rfl (by rfl) (by go_simp <;> rfl) (hS _ (hb.trans ((za W).mono hb.size))) ?_ ?_
    · exact h102_ v2 D2 B9 W.heap.size _ (hb.trans ((za W).mono hb.size)) (p2 _ _ _ _ g2 (za W)) dl2 (zr _ _ _ _ r9 (za W)) (heap_alloc_new W _) l9 hb.size (fun e => by have := zl _ _ _ r9; omega)
    exact AllReadyH.nil
  have h11_ : ∀ (v2 : Value) (D2 : Nat) (B10 : Nat) (W : World), Below w0.heap.size w0 W → C2 D2 v2 W → w0.heap.size ≤ D2 → W.heap[B10]? = some (.cells #[.int .i64 0, .int .i64 0, .slice none 0 0] 46) → w0.heap.size ≤ B10 → wpAnyH Tryz.prog .any ops_t3 Q S 7 #[true, true, true, true, true, false, true, true, false, false, true, false, false, false, false] ((a.put (some 22) v2).put (some 4) (.pointer (some ⟨B10, 0, none⟩))) W := fun v2 D2 B10 W hb g2 dl2 r10 l10 => by
    refine wpAnyH_ready (rs := [5, 9, 11]) (by kernel_rfl) (by simp) ?_
    refine AllReadyH.call (d := 25) (f := 22) (args := #[x5_0]) (OP := .call { callee := .value (.func 22), args := #[.tmp 24], argTypes := #[46] }) (T := 46) rfl rfl rfl rfl (by rfl) (by have h0 := e5_0; simp [Act.eval, go_sem] at h0; simp [execOp, resolve, invoke, go_sem, h0]) ?_ ?_
    · refine (c5 W hb).mono ?_
      rintro e w' ⟨v5, rfl, g5, b'⟩
      have hb' := hb.trans (b'.mono hb.size)
      refine ⟨_, rfl, hS _ hb', ?_⟩
      rw [put_comm (show 4 ≠ 25 by decide)]
      exact h21_ v2 D2 v5 W.heap.size B10 w' hb' (p2 _ _ _ _ g2 b') g5 dl2 hb.size (lt2 _ _ _ g2) (zr _ _ _ _ r10 b') l10
    refine AllReadyH.turn (d := 3) (OP := .alloc 46) (T := 0) (v := .pointer (some ⟨W.heap.size, 0, none⟩)) (w' := W.alloc (.cells #[.int .i64 0, .int .i64 0, .slice none 0 0] 46)) rfl rfl rfl rfl (by rfl) (by go_simp <;> rfl) (hS _ (hb.trans ((za W).mono hb.size))) ?_ ?_
    · rw [put_comm (show 4 ≠ 3 by decide)]
      exact h101_ v2 D2 W.heap.size B10 _ (hb.trans ((za W).mono hb.size)) (p2 _ _ _ _ g2 (za W)) dl2 (heap_alloc_new W _) (zr _ _ _ _ r10 (za W)) hb.size l10 (fun e => by have := zl _ _ _ r10; omega)
    refine AllReadyH.turn (d := 5) (OP := .alloc 46) (T := 0) (v := .pointer (some ⟨W.heap.size, 0, none⟩)) (w' := W.alloc (.cells #[.int .i64 0, .int .i64 0, .slice none 0 0] 46)) rfl rfl rfl rfl (by rfl) (by go_simp <;> rfl) (hS _ (hb.trans ((za W).mono hb.size))) ?_ ?_
    · exact h112_ v2 D2 B10 W.heap.size _ (hb.trans ((za W).mono hb.size)) (p2 _ _ _ _ g2 (za W)) dl2 (zr _ _ _ _ r10 (za W)) (heap_alloc_new W _) l10 hb.size (fun e => by have := zl _ _ _ r10; omega)
    exact AllReadyH.nil
  have h12_ : ∀ (v2 : Value) (D2 : Nat) (B11 : Nat) (W : World), Below w0.heap.size w0 W → C2 D2 v2 W → w0.heap.size ≤ D2 → W.heap[B11]? = some (.cells #[.int .i64 0, .int .i64 0, .slice none 0 0] 46) → w0.heap.size ≤ B11 → wpAnyH Tryz.prog .any ops_t3 Q S 7 #[true, true, true, true, true, false, true, true, false, false, false, true, false, false, false] ((a.put (some 22) v2).put (some 5) (.pointer (some ⟨B11, 0, none⟩))) W := fun v2 D2 B11 W hb g2 dl2 r11 l11 => by
    refine wpAnyH_ready (rs := [5, 9, 10]) (by kernel_rfl) (by simp) ?_
    refine AllReadyH.call (d := 25) (f := 22) (args := #[x5_0]) (OP := .call { callee := .value (.func 22), args := #[.tmp 24], argTypes := #[46] }) (T := 46) rfl rfl rfl rfl (by rfl) (by have h0 := e5_0; simp [Act.eval, go_sem] at h0; simp [execOp, resolve, invoke, go_sem, h0]) ?_ ?_
    · refine (c5 W hb).mono ?_
      rintro e w' ⟨v5, rfl, g5, b'⟩
      have hb' := hb.trans (b'.mono hb.size)
      refine ⟨_, rfl, hS _ hb', ?_⟩
      rw [put_comm (show 5 ≠ 25 by decide)]
      exact h22_ v2 D2 v5 W.heap.size B11 w' hb' (p2 _ _ _ _ g2 b') g5 dl2 hb.size (lt2 _ _ _ g2) (zr _ _ _ _ r11 b') l11
    refine AllReadyH.turn (d := 3) (OP := .alloc 46) (T := 0) (v := .pointer (some ⟨W.heap.size, 0, none⟩)) (w' := W.alloc (.cells #[.int .i64 0, .int .i64 0, .slice none 0 0] 46)) rfl rfl rfl rfl (by rfl) (by go_simp <;> rfl) (hS _ (hb.trans ((za W).mono hb.size))) ?_ ?_
    · rw [put_comm (show 5 ≠ 3 by decide)]
      exact h102_ v2 D2 W.heap.size B11 _ (hb.trans ((za W).mono hb.size)) (p2 _ _ _ _ g2 (za W)) dl2 (heap_alloc_new W _) (zr _ _ _ _ r11 (za W)) hb.size l11 (fun e => by have := zl _ _ _ r11; omega)
    refine AllReadyH.turn (d := 4) (OP := .alloc 46) (T := 0) (v := .pointer (some ⟨W.heap.size, 0, none⟩)) (w' := W.alloc (.cells #[.int .i64 0, .int .i64 0, .slice none 0 0] 46)) rfl rfl rfl rfl (by rfl) (by go_simp <;> rfl) (hS _ (hb.trans ((za W).mono hb.size))) ?_ ?_
    · rw [put_comm (show 5 ≠ 4 by decide)]
      exact h112_ v2 D2 W.heap.size B11 _ (hb.trans ((za W).mono hb.size)) (p2 _ _ _ _ g2 (za W)) dl2 (heap_alloc_new W _) (zr _ _ _ _ r11 (za W)) hb.size l11 (fun e => by have := zl _ _ _ r11; omega)
    exact AllReadyH.nil
  have h001_ : ∀ (B9 : Nat) (B10 : Nat) (W : World), Below w0.heap.size w0 W → W.heap[B9]? = some (.cells #[.int .i64 0, .int .i64 0, .slice none 0 0] 46) → W.heap[B10]? = some (.cells #[.int .i64 0, .int .i64 0, .slice none 0 0] 46) → w0.heap.size ≤ B9 → w0.heap.size ≤ B10 → B9 ≠ B10 → wpAnyH Tryz.prog .any ops_t3 Q S 7 #[true, true, false, true, true, false, true, true, false, true, true, false, false, false, false] ((a.put (some 3) (.pointer (some ⟨B9, 0, none⟩))).put (some 4) (.pointer (some ⟨B10, 0, none⟩))) W := fun B9 B10 W hb r9 r10 l9 l10 n9_10 => by
    refine wpAnyH_ready (rs := [2, 11]) (by kernel_rfl) (by simp) ?_
    refine AllReadyH.call (d := 22) (f := 22) (args := #[x2_0]) (OP := .call { callee := .value (.func 22), args := #[.tmp 21], argTypes := #[46] }) (T := 46) rfl rfl rfl rfl (by rfl) (by have h0 := e2_0; simp [Act.eval, go_sem] at h0; simp [execOp, resolve, invoke, go_sem, h0]) ?_ ?_
    · refine (c2 W hb).mono ?_
      rintro e w' ⟨v2, rfl, g2, b'⟩
      have hb' := hb.trans (b'.mono hb.size)
      refine ⟨_, rfl, hS _ hb', ?_⟩
      rw [put_comm (show 4 ≠ 22 by decide), put_comm (show 3 ≠ 22 by decide)]
      exact h101_ v2 W.heap.size B9 B10 w' hb' g2 hb.size (zr _ _ _ _ r9 b') (zr _ _ _ _ r10 b') l9 l10 n9_10
    refine AllReadyH.turn (d := 5) (OP := .alloc 46) (T := 0) (v := .pointer (some ⟨W.heap.size, 0, none⟩)) (w' := W.alloc (.cells #[.int .i64 0, .int .i64 0, .slice none 0 0] 46)) rfl rfl rfl rfl (by rfl) (by go_simp <;> rfl) (hS _ (hb.trans ((za W).mono hb.size))) ?_ ?_
    · exact h0012_ B9 B10 W.heap.size _ (hb.trans ((za W).mono hb.size)) (zr _ _ _ _ r9 (za W)) (zr _ _ _ _ r10 (za W)) (heap_alloc_new W _) l9 l10 hb.size n9_10 (fun e => by have := zl _ _ _ r9; omega) (fun e => by have := zl _ _ _ r10; omega)
    exact AllReadyH.nil
  have h002_ : ∀ (B9 : Nat) (B11 : Nat) (W : World), Below w0.heap.size w0 W → W.heap[B9]? = some (.cells #[.int .i64 0, .int .i64 0, .slice none 0 0] 46) → W.heap[B11]? = some (.cells #[.int .i64 0, .int .i64 0, .slice none 0 0] 46) → w0.heap.size ≤ B9 → w0.heap.size ≤ B11 → B9 ≠ B11 → wpAnyH Tryz.prog .any ops_t3 Q S 7 #[true, true, false, true, true, false, true, true, false, true, false, true, false, false, false] ((a.put (some 3) (.pointer (some ⟨B9, 0, none⟩))).put (some 5) (.pointer (some ⟨B11, 0, none⟩))) W := fun B9 B11 W hb r9 r11 l9 l11 n9_11 => by
    refine wpAnyH_ready (rs := [2, 10]) (by kernel_rfl) (by simp) ?_
    refine AllReadyH.call (d := 22) (f := 22) (args := #[x2_0]) (OP := .call { callee := .value (.func 22), args := #[.tmp 21], argTypes := #[46] }) (T := 46) rfl rfl rfl rfl (by rfl) (by have h0 := e2_0; simp [Act.eval, go_sem] at h0; simp [execOp, resolve, invoke, go_sem, h0]) ?_ ?_
    · refine (c2 W hb).mono ?_
      rintro e w' ⟨v2, rfl, g2, b'⟩
      have hb' := hb.trans (b'.mono hb.size)
      refine ⟨_, rfl, hS _ hb', ?_⟩
      rw [put_comm (show 5 ≠ 22 by decide), put_comm (show 3 ≠ 22 by decide)]
      exact h102_ v2 W.heap.size B9 B11 w' hb' g2 hb.size (zr _ _ _ _ r9 b') (zr _ _ _ _ r11 b') l9 l11 n9_11
    refine AllReadyH.turn (d := 4) (OP := .alloc 46) (T := 0) (v := .pointer (some ⟨W.heap.size, 0, none⟩)) (w' := W.alloc (.cells #[.int .i64 0, .int .i64 0, .slice none 0 0] 46)) rfl rfl rfl rfl (by rfl) (by go_simp <;> rfl) (hS _ (hb.trans ((za W).mono hb.size))) ?_ ?_
    · rw [put_comm (show 5 ≠ 4 by decide)]
      exact h0012_ B9 W.heap.size B11 _ (hb.trans ((za W).mono hb.size)) (zr _ _ _ _ r9 (za W)) (heap_alloc_new W _) (zr _ _ _ _ r11 (za W)) l9 hb.size l11 (fun e => by have := zl _ _ _ r9; omega) n9_11 (fun e => by have := zl _ _ _ r11; omega)
    exact AllReadyH.nil
  have h012_ : ∀ (B10 : Nat) (B11 : Nat) (W : World), Below w0.heap.size w0 W → W.heap[B10]? = some (.cells #[.int .i64 0, .int .i64 0, .slice none 0 0] 46) → W.heap[B11]? = some (.cells #[.int .i64 0, .int .i64 0, .slice none 0 0] 46) → w0.heap.size ≤ B10 → w0.heap.size ≤ B11 → B10 ≠ B11 → wpAnyH Tryz.prog .any ops_t3 Q S 7 #[true, true, false, true, true, false, true, true, false, false, true, true, false, false, false] ((a.put (some 4) (.pointer (some ⟨B10, 0, none⟩))).put (some 5) (.pointer (some ⟨B11, 0, none⟩))) W := fun B10 B11 W hb r10 r11 l10 l11 n10_11 => by
    refine wpAnyH_ready (rs := [2, 9]) (by kernel_rfl) (by simp) ?_
    refine AllReadyH.call (d := 22) (f := 22) (args := #[x2_0]) (OP := .call { callee := .value (.func 22), args := #[.tmp 21], argTypes := #[46] }) (T := 46) rfl rfl rfl rfl (by rfl) (by have h0 := e2_0; simp [Act.eval, go_sem] at h0; simp [execOp, resolve, invoke, go_sem, h0]) ?_ ?_
    · refine (c2 W hb).mono ?_
      rintro e w' ⟨v2, rfl, g2, b'⟩
      have hb' := hb.trans (b'.mono hb.size)
      refine ⟨_, rfl, hS _ hb', ?_⟩
      rw [put_comm (show 5 ≠ 22 by decide), put_comm (show 4 ≠ 22 by decide)]
      exact h112_ v2 W.heap.size B10 B11 w' hb' g2 hb.size (zr _ _ _ _ r10 b') (zr _ _ _ _ r11 b') l10 l11 n10_11
    refine AllReadyH.turn (d := 3) (OP := .alloc 46) (T := 0) (v := .pointer (some ⟨W.heap.size, 0, none⟩)) (w' := W.alloc (.cells #[.int .i64 0, .int .i64 0, .slice none 0 0] 46)) rfl rfl rfl rfl (by rfl) (by go_simp <;> rfl) (hS _ (hb.trans ((za W).mono hb.size))) ?_ ?_
    · rw [put_comm (show 5 ≠ 3 by decide), put_comm (show 4 ≠ 3 by decide)]
      exact h0012_ W.heap.size B10 B11 _ (hb.trans ((za W).mono hb.size)) (heap_alloc_new W _) (zr _ _ _ _ r10 (za W)) (zr _ _ _ _ r11 (za W)) hb.size l10 l11 (fun e => by have := zl _ _ _ r10; omega) (fun e => by have := zl _ _ _ r11; omega) n10_11
    exact AllReadyH.nil
  have h1_ : ∀ (v2 : Value) (D2 : Nat) (W : World), Below w0.heap.size w0 W → C2 D2 v2 W → w0.heap.size ≤ D2 → wpAnyH Tryz.prog .any ops_t3 Q S 8 #[true, true, true, true, true, false, true, true, false, false, false, false, false, false, false] (a.put (some 22) v2) W := fun v2 D2 W hb g2 dl2 => by
    refine wpAnyH_ready (rs := [5, 9, 10, 11]) (by kernel_rfl) (by simp) ?_
    refine AllReadyH.call (d := 25) (f := 22) (args := #[x5_0]) (OP := .call { callee := .value (.func 22), args := #[.tmp 24], argTypes := #[46] }) (T := 46) rfl rfl rfl rfl (by rfl) (by have h0 := e5_0; simp [Act.eval, go_sem] at h0; simp [execOp, resolve, invoke, go_sem, h0]) ?_ ?_
    · refine (c5 W hb).mono ?_
      rintro e w' ⟨v5, rfl, g5, b'⟩
      have hb' := hb.trans (b'.mono hb.size)
      refine ⟨_, rfl, hS _ hb', ?_⟩
      exact h2_ v2 D2 v5 W.heap.size w' hb' (p2 _ _ _ _ g2 b') g5 dl2 hb.size (lt2 _ _ _ g2)
    refine AllReadyH.turn (d := 3) (OP := .alloc 46) (T := 0) (v := .pointer (some ⟨W.heap.size, 0, none⟩)) (w' := W.alloc (.cells #[.int .i64 0, .int .i64 0, .slice none 0 0] 46)) rfl rfl rfl rfl (by rfl) (by go_simp <;> rfl) (hS _ (hb.trans ((za W).mono hb.size))) ?_ ?_
    · exact h10_ v2 D2 W.heap.size _ (hb.trans ((za W).mono hb.size)) (p2 _ _ _ _ g2 (za W)) dl2 (heap_alloc_new W _) hb.size
    refine AllReadyH.turn (d := 4) (OP := .alloc 46) (T := 0) (v := .pointer (some ⟨W.heap.size, 0, none⟩)) (w' := W.alloc (.cells #[.int .i64 0, .int .i64 0, .slice none 0 0] 46)) rfl rfl rfl rfl (by rfl) (by go_simp <;> rfl) (hS _ (hb.trans ((za W).mono hb.size))) ?_ ?_
    · exact h11_ v2 D2 W.heap.size _ (hb.trans ((za W).mono hb.size)) (p2 _ _ _ _ g2 (za W)) dl2 (heap_alloc_new W _) hb.size
    refine AllReadyH.turn (d := 5) (OP := .alloc 46) (T := 0) (v := .pointer (some ⟨W.heap.size, 0, none⟩)) (w' := W.alloc (.cells #[.int .i64 0, .int .i64 0, .slice none 0 0] 46)) rfl rfl rfl rfl (by rfl) (by go_simp <;> rfl) (hS _ (hb.trans ((za W).mono hb.size))) ?_ ?_
    · exact h12_ v2 D2 W.heap.size _ (hb.trans ((za W).mono hb.size)) (p2 _ _ _ _ g2 (za W)) dl2 (heap_alloc_new W _) hb.size
    exact AllReadyH.nil
  have h00_ : ∀ (B9 : Nat) (W : World), Below w0.heap.size w0 W → W.heap[B9]? = some (.cells #[.int .i64 0, .int .i64 0, .slice none 0 0] 46) → w0.heap.size ≤ B9 → wpAnyH Tryz.prog .any ops_t3 Q S 8 #[true, true, false, true, true, false, true, true, false, true, false, false, false, false, false] (a.put (some 3) (.pointer (some ⟨B9, 0, none⟩))) W := fun B9 W hb r9 l9 => by
    refine wpAnyH_ready (rs := [2, 10, 11]) (by kernel_rfl) (by simp) ?_
    refine AllReadyH.call (d := 22) (f := 22) (args := #[x2_0]) (OP := .call { callee := .value (.func 22), args := #[.tmp 21], argTypes := #[46] }) (T := 46) rfl rfl rfl rfl (by rfl) (by have h0 := e2_0; simp [Act.eval, go_sem] at h0; simp [execOp, resolve, invoke, go_sem, h0]) ?_ ?_
    · refine (c2 W hb).mono ?_
      rintro e w' ⟨v2, rfl, g2, b'⟩
      have hb' := hb.trans (b'.mono hb.size)
      refine ⟨_, rfl, hS _ hb', ?_⟩
      rw [put_comm (show 3 ≠ 22 by decide)]
      exact h10_ v2 W.heap.size B9 w' hb' g2 hb.size (zr _ _ _ _ r9 b') l9
    refine AllReadyH.turn (d := 4) (OP := .alloc 46) (T := 0) (v := .pointer (some ⟨W.heap.size, 0, none⟩)) (w' := W.alloc (.cells #[.int .i64 0, .int .i64 0, .slice none 0 0] 46)) rfl rfl rfl rfl (by rfl) (by go_simp <;> rfl) (hS _ (hb.trans ((za W).mono hb.size))) ?_ ?_
    · exact h001_ B9 W.heap.size _ (hb.trans ((za W).mono hb.size)) (zr _ _ _ _ r9 (za W)) (heap_alloc_new W _) l9 hb.size (fun e => by have := zl _ _ _ r9; omega)
    refine AllReadyH.turn (d := 5) (OP := .alloc 46) (T := 0) (v := .pointer (some ⟨W.heap.size, 0, none⟩)) (w' := W.alloc (.cells #[.int .i64 0, .int .i64 0, .slice none 0 0] 46)) rfl rfl rfl rfl (by rfl) (by go_simp <;> rfl) (hS _ (hb.trans ((za W).mono hb.size))) ?_ ?_
    · exact h002_ B9 W.heap.size _ (hb.trans ((za W).mono hb.size)) (zr _ _ _ _ r9 (za W)) (heap_alloc_new W _) l9 hb.size (fun e => by have := zl _ _ _ r9; omega)
    exact AllReadyH.nil
  have h01_ : ∀ (B10 : Nat) (W : World), Below w0.heap.size w0 W → W.heap[B10]? = some (.cells #[.int .i64 0, .int .i64 0, .slice none 0 0] 46) → w0.heap.size ≤ B10 → wpAnyH Tryz.prog .any ops_t3 Q S 8 #[true, true, false, true, true, false, true, true, false, false, true, false, false, false, false] (a.put (some 4) (.pointer (some ⟨B10, 0, none⟩))) W := fun B10 W hb r10 l10 => by
    refine wpAnyH_ready (rs := [2, 9, 11]) (by kernel_rfl) (by simp) ?_
    refine AllReadyH.call (d := 22) (f := 22) (args := #[x2_0]) (OP := .call { callee := .value (.func 22), args := #[.tmp 21], argTypes := #[46] }) (T := 46) rfl rfl rfl rfl (by rfl) (by have h0 := e2_0; simp [Act.eval, go_sem] at h0; simp [execOp, resolve, invoke, go_sem, h0]) ?_ ?_
    · refine (c2 W hb).mono ?_
      rintro e w' ⟨v2, rfl, g2, b'⟩
      have hb' := hb.trans (b'.mono hb.size)
      refine ⟨_, rfl, hS _ hb', ?_⟩
      rw [put_comm (show 4 ≠ 22 by decide)]
      exact h11_ v2 W.heap.size B10 w' hb' g2 hb.size (zr _ _ _ _ r10 b') l10
    refine AllReadyH.turn (d := 3) (OP := .alloc 46) (T := 0) (v := .pointer (some ⟨W.heap.size, 0, none⟩)) (w' := W.alloc (.cells #[.int .i64 0, .int .i64 0, .slice none 0 0] 46)) rfl rfl rfl rfl (by rfl) (by go_simp <;> rfl) (hS _ (hb.trans ((za W).mono hb.size))) ?_ ?_
    · rw [put_comm (show 4 ≠ 3 by decide)]
      exact h001_ W.heap.size B10 _ (hb.trans ((za W).mono hb.size)) (heap_alloc_new W _) (zr _ _ _ _ r10 (za W)) hb.size l10 (fun e => by have := zl _ _ _ r10; omega)
    refine AllReadyH.turn (d := 5) (OP := .alloc 46) (T := 0) (v := .pointer (some ⟨W.heap.size, 0, none⟩)) (w' := W.alloc (.cells #[.int .i64 0, .int .i64 0, .slice none 0 0] 46)) rfl rfl rfl rfl (by rfl) (by go_simp <;> rfl) (hS _ (hb.trans ((za W).mono hb.size))) ?_ ?_
    · exact h012_ B10 W.heap.size _ (hb.trans ((za W).mono hb.size)) (zr _ _ _ _ r10 (za W)) (heap_alloc_new W _) l10 hb.size (fun e => by have := zl _ _ _ r10; omega)
    exact AllReadyH.nil
  have h02_ : ∀ (B11 : Nat) (W : World), Below w0.heap.size w0 W → W.heap[B11]? = some (.cells #[.int .i64 0, .int .i64 0, .slice none 0 0] 46) → w0.heap.size ≤ B11 → wpAnyH Tryz.prog .any ops_t3 Q S 8 #[true, true, false, true, true, false, true, true, false, false, false, true, false, false, false] (a.put (some 5) (.pointer (some ⟨B11, 0, none⟩))) W := fun B11 W hb r11 l11 => by
    refine wpAnyH_ready (rs := [2, 9, 10]) (by kernel_rfl) (by simp) ?_
    refine AllReadyH.call (d := 22) (f := 22) (args := #[x2_0]) (OP := .call { callee := .value (.func 22), args := #[.tmp 21], argTypes := #[46] }) (T := 46) rfl rfl rfl rfl (by rfl) (by have h0 := e2_0; simp [Act.eval, go_sem] at h0; simp [execOp, resolve, invoke, go_sem, h0]) ?_ ?_
    · refine (c2 W hb).mono ?_
      rintro e w' ⟨v2, rfl, g2, b'⟩
      have hb' := hb.trans (b'.mono hb.size)
      refine ⟨_, rfl, hS _ hb', ?_⟩
      rw [put_comm (show 5 ≠ 22 by decide)]
      exact h12_ v2 W.heap.size B11 w' hb' g2 hb.size (zr _ _ _ _ r11 b') l11
    refine AllReadyH.turn (d := 3) (OP := .alloc 46) (T := 0) (v := .pointer (some ⟨W.heap.size, 0, none⟩)) (w' := W.alloc (.cells #[.int .i64 0, .int .i64 0, .slice none 0 0] 46)) rfl rfl rfl rfl (by rfl) (by go_simp <;> rfl) (hS _ (hb.trans ((za W).mono hb.size))) ?_ ?_
    · rw [put_comm (show 5 ≠ 3 by decide)]
      exact h002_ W.heap.size B11 _ (hb.trans ((za W).mono hb.size)) (heap_alloc_new W _) (zr _ _ _ _ r11 (za W)) hb.size l11 (fun e => by have := zl _ _ _ r11; omega)
    refine AllReadyH.turn (d := 4) (OP := .alloc 46) (T := 0) (v := .pointer (some ⟨W.heap.size, 0, none⟩)) (w' := W.alloc (.cells #[.int .i64 0, .int .i64 0, .slice none 0 0] 46)) rfl rfl rfl rfl (by rfl) (by go_simp <;> rfl) (hS _ (hb.trans ((za W).mono hb.size))) ?_ ?_
    · rw [put_comm (show 5 ≠ 4 by decide)]
      exact h012_ W.heap.size B11 _ (hb.trans ((za W).mono hb.size)) (heap_alloc_new W _) (zr _ _ _ _ r11 (za W)) hb.size l11 (fun e => by have := zl _ _ _ r11; omega)
    exact AllReadyH.nil
  have h0_ : ∀ (W : World), Below w0.heap.size w0 W → wpAnyH Tryz.prog .any ops_t3 Q S 9 #[true, true, false, true, true, false, true, true, false, false, false, false, false, false, false] a W := fun  W hb => by
    refine wpAnyH_ready (rs := [2, 9, 10, 11]) (by kernel_rfl) (by simp) ?_
    refine AllReadyH.call (d := 22) (f := 22) (args := #[x2_0]) (OP := .call { callee := .value (.func 22), args := #[.tmp 21], argTypes := #[46] }) (T := 46) rfl rfl rfl rfl (by rfl) (by have h0 := e2_0; simp [Act.eval, go_sem] at h0; simp [execOp, resolve, invoke, go_sem, h0]) ?_ ?_
    · refine (c2 W hb).mono ?_
      rintro e w' ⟨v2, rfl, g2, b'⟩
      have hb' := hb.trans (b'.mono hb.size)
      refine ⟨_, rfl, hS _ hb', ?_⟩
      exact h1_ v2 W.heap.size w' hb' g2 hb.size
    refine AllReadyH.turn (d := 3) (OP := .alloc 46) (T := 0) (v := .pointer (some ⟨W.heap.size, 0, none⟩)) (w' := W.alloc (.cells #[.int .i64 0, .int .i64 0, .slice none 0 0] 46)) rfl rfl rfl rfl (by rfl) (by go_simp <;> rfl) (hS _ (hb.trans ((za W).mono hb.size))) ?_ ?_
    · exact h00_ W.heap.size _ (hb.trans ((za W).mono hb.size)) (heap_alloc_new W _) hb.size
    refine AllReadyH.turn (d := 4) (OP := .alloc 46) (T := 0) (v := .pointer (some ⟨W.heap.size, 0, none⟩)) (w' := W.alloc (.cells #[.int .i64 0, .int .i64 0, .slice none 0 0] 46)) rfl rfl rfl rfl (by rfl) (by go_simp <;> rfl) (hS _ (hb.trans ((za W).mono hb.size))) ?_ ?_
    · exact h01_ W.heap.size _ (hb.trans ((za W).mono hb.size)) (heap_alloc_new W _) hb.size
    refine AllReadyH.turn (d := 5) (OP := .alloc 46) (T := 0) (v := .pointer (some ⟨W.heap.size, 0, none⟩)) (w' := W.alloc (.cells #[.int .i64 0, .int .i64 0, .slice none 0 0] 46)) rfl rfl rfl rfl (by rfl) (by go_simp <;> rfl) (hS _ (hb.trans ((za W).mono hb.size))) ?_ ?_
    · exact h02_ W.heap.size _ (hb.trans ((za W).mono hb.size)) (heap_alloc_new W _) hb.size
    exact AllReadyH.nil
  exact h0_ W hW

theorem exec_ix66 {ev : Operand → Value} {x : Operand} {T : TypeId} {w : World} {B : Nat} (hx : ev x = .pointer (some ⟨B, 0, none⟩)) (i : Nat) (hi : i < 3) (hc : ev (.const (.int .i64 (i : Int))) = .int .i64 (i : Int)) : (execOp ev { dst := none, op := .indexAddr 66 x (.const (.int .i64 (i : Int))), type := T, pos := "", after := #[], guard := none }).run Tryz.prog w = .ok (.value (.pointer (some ⟨B, 3 * i, none⟩))) w := by
  have : i = 0 ∨ i = 1 ∨ i = 2 := by omega
  rcases this with rfl | rfl | rfl
  all_goals
    unfold execOp
    simp only [hx, hc]
    go_simp
theorem exec_l46o {ev : Operand → Value} {x : Operand} {T : TypeId} {w : World} {B o : Nat} {a b c : Value} (hx : ev x = .pointer (some ⟨B, o, none⟩)) (h0 : w.cell? ⟨B, o, none⟩ = some a) (h1 : w.cell? ⟨B, o + 1, none⟩ = some b) (h2 : w.cell? ⟨B, o + 2, none⟩ = some c) : (execOp ev { dst := none, op := .load 46 x, type := T, pos := "", after := #[], guard := none }).run Tryz.prog w = .ok (.value (.agg #[a, b, c])) w := by
  unfold execOp
  simp only [hx]
  go_simp
def CopC (k n : Int) (N : Nat) (l : List El) (D : Nat) (v : Value) (W : World) : Prop := ∃ g c', v = vv k n (some ⟨g, 0, none⟩) N c' ∧ Oe W D (.slice (some ⟨g, 0, none⟩) (N + 1) c') (l ++ [markE])
theorem Oe.blk {W : World} {B g n c : Nat} {L : List El} (h : Oe W B (.slice (some ⟨g, 0, none⟩) n c) L) : B ≤ g ∧ g < W.heap.size := by
  obtain ⟨a', c', e, _, _, _, h4⟩ := h.form
  simp only [Value.slice.injEq] at e
  obtain ⟨e1, _, _⟩ := e
  have := h4 _ e1.symm
  exact ⟨this.1, this.2.1⟩
theorem CopC.below {k n : Int} {N : Nat} {l : List El} {D : Nat} {v : Value} {W W' : World} (h : CopC k n N l D v W) (hb : Below W.heap.size W W') : CopC k n N l D v W' := by
  obtain ⟨g, c', e, hO⟩ := h
  exact ⟨g, c', e, hO.below hb⟩
theorem CopC.lt {k n : Int} {N : Nat} {l : List El} {D : Nat} {v : Value} {W : World} (h : CopC k n N l D v W) : Lt v W.heap.size := fun k' n' g' m' c' e' => by
  obtain ⟨g, c', e, hO⟩ := h
  rw [e] at e'
  simp only [Value.agg.injEq, Array.mk.injEq, List.cons.injEq, Value.slice.injEq, Option.some.injEq, Addr.mk.injEq] at e'
  have := hO.blk.2
  omega
set_option maxHeartbeats 4000000 in
theorem wp_t3 {Q : Exit → Act → World → Prop} {a : Act} {w : World} (hsz : a.tmps.size = 88) {X : Nat} {k0 n0 k1 n1 k2 n2 : Int} {a0 a1 a2 : Option Addr} {c0 c1 c2 N0 N1 N2 : Nat} {l0 l1 l2 : List El} (hN0 : N0 = l0.length) (hN1 : N1 = l1.length) (hN2 : N2 = l2.length) (hp : a.eval (.tmp 1) = .pointer (some ⟨X, 0, none⟩))
    (x0 : w.cell? ⟨X, 0, none⟩ = some (.int .i64 k0)) (x1 : w.cell? ⟨X, 1, none⟩ = some (.int .i64 n0)) (x2 : w.cell? ⟨X, 2, none⟩ = some (.slice a0 N0 c0)) (x3 : w.cell? ⟨X, 3, none⟩ = some (.int .i64 k1)) (x4 : w.cell? ⟨X, 4, none⟩ = some (.int .i64 n1)) (x5 : w.cell? ⟨X, 5, none⟩ = some (.slice a1 N1 c1)) (x6 : w.cell? ⟨X, 6, none⟩ = some (.int .i64 k2)) (x7 : w.cell? ⟨X, 7, none⟩ = some (.int .i64 n2)) (x8 : w.cell? ⟨X, 8, none⟩ = some (.slice a2 N2 c2))
    (r0 : Re w a0 l0) (r1 : Re w a1 l1) (r2 : Re w a2 l2) (z0 : a0 = none → c0 = 0) (z1 : a1 = none → c1 = 0) (z2 : a2 = none → c2 = 0) (s0 : l0.length ≤ 1000) (s1 : l1.length ≤ 1000) (s2 : l2.length ≤ 1000)
    (hq : ∀ c a i v w, Q (.panic c) (a.put (some i) v) w → Q (.panic c) a w)
    (h : ∀ g0 d0 g1 d1 g2 d2 B9 B10 B11 W, Hid (Below w.heap.size w W ∧ W.heap[B9]? = some (.cells #[.int .i64 k0, .int .i64 n0, .slice (some ⟨g0, 0, none⟩) N0 d0] 46 (0, 0)) ∧ W.heap[B10]? = some (.cells #[.int .i64 k1, .int .i64 n1, .slice (some ⟨g1, 0, none⟩) N1 d1] 46 (0, 0)) ∧ W.heap[B11]? = some (.cells #[.int .i64 k2, .int .i64 n2, .slice (some ⟨g2, 0, none⟩) N2 d2] 46 (0, 0)) ∧ Oe W w.heap.size (.slice (some ⟨g0, 0, none⟩) (N0 + 1) d0) (l0 ++ [markE]) ∧ Oe W w.heap.size (.slice (some ⟨g1, 0, none⟩) (N1 + 1) d1) (l1 ++ [markE]) ∧ Oe W w.heap.size (.slice (some ⟨g2, 0, none⟩) (N2 + 1) d2) (l2 ++ [markE]) ∧ g0 ≠ g1 ∧ g0 ≠ g2 ∧ g1 ≠ g2) → Q .normal ((((((((((((a.put (some 20) (.pointer (some ⟨X, 0, none⟩))).put (some 21) (vv k0 n0 a0 N0 c0)).put (some 23) (.pointer (some ⟨X, 3, none⟩))).put (some 24) (vv k1 n1 a1 N1 c1)).put (some 26) (.pointer (some ⟨X, 6, none⟩))).put (some 27) (vv k2 n2 a2 N2 c2)).put (some 22) (vv k0 n0 (some ⟨g0, 0, none⟩) N0 d0)).put (some 25) (vv k1 n1 (some ⟨g1, 0, none⟩) N1 d1)).put (some 28) (vv k2 n2 (some ⟨g2, 0, none⟩) N2 d2)).put (some 3) (.pointer (some ⟨B9, 0, none⟩))).put (some 4) (.pointer (some ⟨B10, 0, none⟩))).put (some 5) (.pointer (some ⟨B11, 0, none⟩))) W) :
    (Code.region 3 ops_t3 true).wp Tryz.prog Q a w := by
  have hSb : ∀ W, Below w.heap.size w W → ∀ a v, w.cell? a = some v → W.cell? a = some v := fun W hW a v hv => cell_stays hv hW
  have hd : Below w.heap.size w w.drew := drew_below w
  refine wp_region_held_drew (S := (fun W => ∀ a v, w.cell? a = some v → W.cell? a = some v)) (by kernel_rfl) (hSb _ hd) (fun hHeld => ?_)
  refine take_op (i := 0) (d := 20) (OP := Op.indexAddr 66 (Operand.tmp 1) (Operand.const (Value.int IntKind.i64 0))) (T := 0) (v := .pointer (some ⟨X, 0, none⟩)) rfl rfl rfl rfl (by kernel_rfl) (by kernel_rfl) (by kernel_rfl) (fun c a w h => hq c a _ _ w h) (by rfl) (fun w' _ => exec_ix66 (by exact hp) 0 (by decide) rfl) hHeld ?_
  refine take_op (i := 1) (d := 21) (OP := Op.load 46 (Operand.tmp 20)) (T := 46) (v := vv k0 n0 a0 N0 c0) rfl rfl rfl rfl (by kernel_rfl) (by kernel_rfl) (by kernel_rfl) (fun c a w h => hq c a _ _ w h) (by rfl) (fun w' hw' => exec_l46o (by exact eval_put_eq (by first | omega | (simp only [size_put]; omega))) (hw' _ _ x0) (hw' _ _ x1) (hw' _ _ x2)) hHeld ?_
  refine take_op (i := 3) (d := 23) (OP := Op.indexAddr 66 (Operand.tmp 1) (Operand.const (Value.int IntKind.i64 1))) (T := 0) (v := .pointer (some ⟨X, 3, none⟩)) rfl rfl rfl rfl (by kernel_rfl) (by kernel_rfl) (by kernel_rfl) (fun c a w h => hq c a _ _ w h) (by rfl) (fun w' _ => exec_ix66 (by rw [eval_put (by decide), eval_put (by decide)]; exact hp) 1 (by decide) rfl) hHeld ?_
  refine take_op (i := 4) (d := 24) (OP := Op.load 46 (Operand.tmp 23)) (T := 46) (v := vv k1 n1 a1 N1 c1) rfl rfl rfl rfl (by kernel_rfl) (by kernel_rfl) (by kernel_rfl) (fun c a w h => hq c a _ _ w h) (by rfl) (fun w' hw' => exec_l46o (by exact eval_put_eq (by first | omega | (simp only [size_put]; omega))) (hw' _ _ x3) (hw' _ _ x4) (hw' _ _ x5)) hHeld ?_
  refine take_op (i := 6) (d := 26) (OP := Op.indexAddr 66 (Operand.tmp 1) (Operand.const (Value.int IntKind.i64 2))) (T := 0) (v := .pointer (some ⟨X, 6, none⟩)) rfl rfl rfl rfl (by kernel_rfl) (by kernel_rfl) (by kernel_rfl) (fun c a w h => hq c a _ _ w h) (by rfl) (fun w' _ => exec_ix66 (by rw [eval_put (by decide), eval_put (by decide), eval_put (by decide), eval_put (by decide)]; exact hp) 2 (by decide) rfl) hHeld ?_
  refine take_op (i := 7) (d := 27) (OP := Op.load 46 (Operand.tmp 26)) (T := 46) (v := vv k2 n2 a2 N2 c2) rfl rfl rfl rfl (by kernel_rfl) (by kernel_rfl) (by kernel_rfl) (fun c a w h => hq c a _ _ w h) (by rfl) (fun w' hw' => exec_l46o (by exact eval_put_eq (by first | omega | (simp only [size_put]; omega))) (hw' _ _ x6) (hw' _ _ x7) (hw' _ _ x8)) hHeld ?_
  refine t3_any (w0 := w) (x2_0 := vv k0 n0 a0 N0 c0) (x5_0 := vv k1 n1 a1 N1 c1) (x8_0 := vv k2 n2 a2 N2 c2) (C2 := CopC k0 n0 N0 l0) (C5 := CopC k1 n1 N1 l1) (C8 := CopC k2 n2 N2 l2) (by rw [eval_put (by decide), eval_put (by decide), eval_put (by decide), eval_put (by decide)]; exact eval_put_eq (by first | omega | (simp only [size_put]; omega))) (by rw [eval_put (by decide), eval_put (by decide)]; exact eval_put_eq (by first | omega | (simp only [size_put]; omega))) (by exact eval_put_eq (by first | omega | (simp only [size_put]; omega))) hSb ?_ ?_ ?_ (fun _ _ _ _ h hb => h.below hb) (fun _ _ _ h => h.lt) (fun _ _ _ _ h hb => h.below hb) (fun _ _ _ h => h.lt) (fun _ _ _ _ h hb => h.below hb) ?_ w.drew hd
  · intro W hW
    have := copied_any k0 n0 (c := c0) (r0.below hW) z0 s0
    rw [← hN0] at this
    refine this.mono ?_
    rintro e w' ⟨g, c', rfl, hO, hb⟩
    rw [← hN0] at hO
    exact ⟨_, by rw [← hN0], ⟨g, c', rfl, hO⟩, hb⟩
  · intro W hW
    have := copied_any k1 n1 (c := c1) (r1.below hW) z1 s1
    rw [← hN1] at this
    refine this.mono ?_
    rintro e w' ⟨g, c', rfl, hO, hb⟩
    rw [← hN1] at hO
    exact ⟨_, by rw [← hN1], ⟨g, c', rfl, hO⟩, hb⟩
  · intro W hW
    have := copied_any k2 n2 (c := c2) (r2.below hW) z2 s2
    rw [← hN2] at this
    refine this.mono ?_
    rintro e w' ⟨g, c', rfl, hO, hb⟩
    rw [← hN2] at hO
    exact ⟨_, by rw [← hN2], ⟨g, c', rfl, hO⟩, hb⟩
  rintro v2 D2 v5 D5 v8 D8 B9 B10 B11 W hb ⟨g0, d0, rfl, o0⟩ ⟨g1, d1, rfl, o1⟩ ⟨g2, d2, rfl, o2⟩ e2 e5 e8 t25 t28 t58 r9 r10 r11 l9 l10 l11 n910 n911 n1011
  have q01 : g0 ≠ g1 := by have := t25 _ _ _ _ _ rfl; have := o1.blk.1; omega
  have q02 : g0 ≠ g2 := by have := t28 _ _ _ _ _ rfl; have := o2.blk.1; omega
  have q12 : g1 ≠ g2 := by have := t58 _ _ _ _ _ rfl; have := o2.blk.1; omega
  have m0B9 : g0 ≠ B9 := fun e => by
    obtain ⟨S, ⟨cur, hc, _⟩, _⟩ := o0.rowE
    rw [e, r9] at hc
    simp at hc
  have m0B10 : g0 ≠ B10 := fun e => by
    obtain ⟨S, ⟨cur, hc, _⟩, _⟩ := o0.rowE
    rw [e, r10] at hc
    simp at hc
  have m0B11 : g0 ≠ B11 := fun e => by
    obtain ⟨S, ⟨cur, hc, _⟩, _⟩ := o0.rowE
    rw [e, r11] at hc
    simp at hc
  have m1B9 : g1 ≠ B9 := fun e => by
    obtain ⟨S, ⟨cur, hc, _⟩, _⟩ := o1.rowE
    rw [e, r9] at hc
    simp at hc
  have m1B10 : g1 ≠ B10 := fun e => by
    obtain ⟨S, ⟨cur, hc, _⟩, _⟩ := o1.rowE
    rw [e, r10] at hc
    simp at hc
  have m1B11 : g1 ≠ B11 := fun e => by
    obtain ⟨S, ⟨cur, hc, _⟩, _⟩ := o1.rowE
    rw [e, r11] at hc
    simp at hc
  have m2B9 : g2 ≠ B9 := fun e => by
    obtain ⟨S, ⟨cur, hc, _⟩, _⟩ := o2.rowE
    rw [e, r9] at hc
    simp at hc
  have m2B10 : g2 ≠ B10 := fun e => by
    obtain ⟨S, ⟨cur, hc, _⟩, _⟩ := o2.rowE
    rw [e, r10] at hc
    simp at hc
  have m2B11 : g2 ≠ B11 := fun e => by
    obtain ⟨S, ⟨cur, hc, _⟩, _⟩ := o2.rowE
    rw [e, r11] at hc
    simp at hc
  obtain ⟨u0, f0, -⟩ := rowV r9 (.int .i64 k0) (.int .i64 n0) (.slice (some ⟨g0, 0, none⟩) N0 d0)
  obtain ⟨W1, hW1⟩ : ∃ y, y = W.setCells B9 0 [.int .i64 k0, .int .i64 n0, .slice (some ⟨g0, 0, none⟩) N0 d0] := ⟨_, rfl⟩
  rw [← hW1] at u0 f0
  have hbW1 : Below w.heap.size w W1 := Below.only hb f0 hb.size (fun j e => by omega)
  refine skip_op (i := 12) (OP := Op.store 46 (Operand.tmp 3) (Operand.tmp 22)) (T := 0) (w' := W1) rfl rfl rfl rfl (by kernel_rfl) (by rfl) (by rw [hW1]; exact exec_storeV (by rw [eval_put (by decide), eval_put (by decide)]; exact eval_put_eq (by first | omega | (simp only [size_put]; omega))) (by rw [eval_put (by decide), eval_put (by decide), eval_put (by decide), eval_put (by decide), eval_put (by decide)]; exact eval_put_eq (by first | omega | (simp only [size_put]; omega))) r9) ⟨hSb _ hbW1, ?_⟩
  have r0B10 := (f0.block _ (Array.getElem?_eq_some_iff.1 r10).1 (fun e => by omega)).trans r10
  have r0B11 := (f0.block _ (Array.getElem?_eq_some_iff.1 r11).1 (fun e => by omega)).trans r11
  have o0_0 := o0.only f0 (fun k hk => by simp only [Value.ownBlock, Option.some.injEq] at hk; rw [← hk]; exact m0B9)
  have o0_1 := o1.only f0 (fun k hk => by simp only [Value.ownBlock, Option.some.injEq] at hk; rw [← hk]; exact m1B9)
  have o0_2 := o2.only f0 (fun k hk => by simp only [Value.ownBlock, Option.some.injEq] at hk; rw [← hk]; exact m2B9)
  obtain ⟨u1, f1, -⟩ := rowV r0B10 (.int .i64 k1) (.int .i64 n1) (.slice (some ⟨g1, 0, none⟩) N1 d1)
  obtain ⟨W2, hW2⟩ : ∃ y, y = W1.setCells B10 0 [.int .i64 k1, .int .i64 n1, .slice (some ⟨g1, 0, none⟩) N1 d1] := ⟨_, rfl⟩
  rw [← hW2] at u1 f1
  have hbW2 : Below w.heap.size w W2 := Below.only hbW1 f1 hbW1.size (fun j e => by omega)
  refine skip_op (i := 13) (OP := Op.store 46 (Operand.tmp 4) (Operand.tmp 25)) (T := 0) (w' := W2) rfl rfl rfl rfl (by kernel_rfl) (by rfl) (by rw [hW2]; exact exec_storeV (by rw [eval_put (by decide)]; exact eval_put_eq (by first | omega | (simp only [size_put]; omega))) (by rw [eval_put (by decide), eval_put (by decide), eval_put (by decide), eval_put (by decide)]; exact eval_put_eq (by first | omega | (simp only [size_put]; omega))) r0B10) ⟨hSb _ hbW2, ?_⟩
  have r1B9 := (f1.block _ (Array.getElem?_eq_some_iff.1 u0).1 (fun e => by omega)).trans u0
  have r1B11 := (f1.block _ (Array.getElem?_eq_some_iff.1 r0B11).1 (fun e => by omega)).trans r0B11
  have o1_0 := o0_0.only f1 (fun k hk => by simp only [Value.ownBlock, Option.some.injEq] at hk; rw [← hk]; exact m0B10)
  have o1_1 := o0_1.only f1 (fun k hk => by simp only [Value.ownBlock, Option.some.injEq] at hk; rw [← hk]; exact m1B10)
  have o1_2 := o0_2.only f1 (fun k hk => by simp only [Value.ownBlock, Option.some.injEq] at hk; rw [← hk]; exact m2B10)
  obtain ⟨u2, f2, -⟩ := rowV r1B11 (.int .i64 k2) (.int .i64 n2) (.slice (some ⟨g2, 0, none⟩) N2 d2)
  obtain ⟨W3, hW3⟩ : ∃ y, y = W2.setCells B11 0 [.int .i64 k2, .int .i64 n2, .slice (some ⟨g2, 0, none⟩) N2 d2] := ⟨_, rfl⟩
  rw [← hW3] at u2 f2
  have hbW3 : Below w.heap.size w W3 := Below.only hbW2 f2 hbW2.size (fun j e => by omega)
  refine skip_op (i := 14) (OP := Op.store 46 (Operand.tmp 5) (Operand.tmp 28)) (T := 0) (w' := W3) rfl rfl rfl rfl (by kernel_rfl) (by rfl) (by rw [hW3]; exact exec_storeV (by exact eval_put_eq (by first | omega | (simp only [size_put]; omega))) (by rw [eval_put (by decide), eval_put (by decide), eval_put (by decide)]; exact eval_put_eq (by first | omega | (simp only [size_put]; omega))) r1B11) ⟨hSb _ hbW3, ?_⟩
  have r2B9 := (f2.block _ (Array.getElem?_eq_some_iff.1 r1B9).1 (fun e => by omega)).trans r1B9
  have r2B10 := (f2.block _ (Array.getElem?_eq_some_iff.1 u1).1 (fun e => by omega)).trans u1
  have o2_0 := o1_0.only f2 (fun k hk => by simp only [Value.ownBlock, Option.some.injEq] at hk; rw [← hk]; exact m0B11)
  have o2_1 := o1_1.only f2 (fun k hk => by simp only [Value.ownBlock, Option.some.injEq] at hk; rw [← hk]; exact m1B11)
  have o2_2 := o1_2.only f2 (fun k hk => by simp only [Value.ownBlock, Option.some.injEq] at hk; rw [← hk]; exact m2B11)
  refine wpAnyH_done (by kernel_rfl) ?_ _
  exact h g0 d0 g1 d1 g2 d2 B9 B10 B11 W3 (hide ⟨hbW3, r2B9, r2B10, u2, o2_0.lift e2, o2_1.lift e5, o2_2.lift e8, q01, q02, q12⟩)
end Go.Proofs.YtkdgageljgfgoaaGreatDoor
namespace Go.Proofs.YtkdgageljgfgoaaGreatDoor
open Go.RowKit Go.Shelf
set_option linter.unusedSimpArgs false
attribute [local go_sem] Oper.semAt_some

theorem Re.only {w w' : World} {D : Nat → Prop} {ao : Option Addr} {l : List El} (h : Re w ao l) (ho : Only D w w') (hD : ∀ a, ao = some a → ¬ D a.block) : Re w' ao l := ⟨h.1, fun a ha j u hj => by
  have hbl : (a.add j).block = a.block := by unfold Addr.add; split <;> rfl
  exact ho.cell (h.2 a ha j u hj) (by rw [hbl]; exact hD a ha)⟩
theorem Re.lt {w : World} {ao : Option Addr} {l : List El} (h : Re w ao l) (hl : l ≠ []) : ∀ a, ao = some a → a.block < w.heap.size := fun a ha => by
  have h0 : 0 < (flatE l).length := by rw [flatE_len]; have := List.length_pos_iff.2 hl; omega
  have := h.2 a ha 0 _ (List.getElem?_eq_getElem h0)
  have hbl : (a.add 0).block = a.block := by unfold Addr.add; split <;> rfl
  rw [← hbl]
  exact World.block_lt_of_cell? _ _ this
/-- Elements stay where only rows that are theirs not are written. -/
theorem Re.onlyN {w w' : World} {D : Nat → Prop} {ao : Option Addr} {l : List El} (h : Re w ao l) (ho : Only D w w') (hD : l ≠ [] → ∀ a, ao = some a → ¬ D a.block) : Re w' ao l := by
  cases l with
  | nil => exact Re.nil _ _
  | cons x t => exact h.only ho (hD (by simp))
theorem copy_rv {W : World} {B g N d : Nat} {l : List El} (hN : N = l.length) (h : Oe W B (.slice (some ⟨g, 0, none⟩) (N + 1) d) (l ++ [markE])) : Rv W (some ⟨g, 0, none⟩) d l := by
  have h1 := h.re.take l.length
  rw [List.take_left'] at h1
  · obtain ⟨a', c', e, _, _, h3, _⟩ := h.form
    simp only [Value.slice.injEq] at e
    obtain ⟨_, e2, e3⟩ := e
    exact ⟨h1, by omega, by simp, fun a ha => by cases ha; rfl⟩
  · rfl
theorem threeV_len (k0 n0 k1 n1 k2 n2 : Int) (l0 l1 l2 : List El) : (threeV k0 n0 l0 k1 n1 l1 k2 n2 l2).2.2.1.length ≤ l1.length + l2.length := by
  unfold threeV
  split
  · simp
  · exact togL_len _ _ _

theorem row_ne {w : World} {g S B : Nat} {cs : Array Value} {t : TypeId} (h : RowE w g S) (hB : w.heap[B]? = some (.cells cs t (0, 0))) (ht : t ≠ 77) : g ≠ B := fun e => by
  obtain ⟨cur, hc, _⟩ := h
  rw [e, hB] at hc
  simp only [Option.some.injEq, Obj.cells.injEq] at hc
  exact ht hc.2.1
theorem two_only {w a b : World} {g0 g1 : Nat} (h : Only (fun j => j = g0) w a) (k : Only (fun j => j = g1) a b) : Only (fun j => j = g0 ∨ j = g1) w b := (h.mono (fun _ _ e => Or.inl e)).next (k.mono (fun _ _ e => Or.inr e))
theorem three_only {w a b : World} {g0 g1 g2 : Nat} (h : Only (fun j => j = g0 ∨ j = g1) w a) (k : Only (fun j => j = g2) a b) : Only (fun j => j = g0 ∨ j = g1 ∨ j = g2) w b := (h.mono (fun _ _ e => e.elim Or.inl (fun e => Or.inr (Or.inl e)))).next (k.mono (fun _ _ e => Or.inr (Or.inr e)))

set_option maxHeartbeats 16000000 in
set_option maxRecDepth 100000 in
theorem three_walk {w : World} (k0 n0 k1 n1 k2 n2 : Int) {a0 a1 a2 : Option Addr} {c0 c1 c2 : Nat} {l0 l1 l2 : List El} (h0 : ElsIn w a0 c0 l0) (h1 : ElsIn w a1 c1 l1) (h2 : ElsIn w a2 c2 l2) (hT : Tabs w) :
    Calls Tryz.prog 5 #[.agg #[.int .i64 k0, .int .i64 n0, .slice a0 l0.length c0, .int .i64 k1, .int .i64 n1, .slice a1 l1.length c1, .int .i64 k2, .int .i64 n2, .slice a2 l2.length c2]] w fun e w' => e = .returned (.bool true) ∧ Below w.heap.size w w' := by
  obtain ⟨N0, hN0⟩ : ∃ N, N = l0.length := ⟨_, rfl⟩
  obtain ⟨N1, hN1⟩ : ∃ N, N = l1.length := ⟨_, rfl⟩
  obtain ⟨N2, hN2⟩ : ∃ N, N = l2.length := ⟨_, rfl⟩
  obtain ⟨w1, hw1⟩ : ∃ w1, w1 = w.alloc (.cells #[.int .i64 k0, .int .i64 n0, .slice a0 N0 c0, .int .i64 k1, .int .i64 n1, .slice a1 N1 c1, .int .i64 k2, .int .i64 n2, .slice a2 N2 c2] 66) := ⟨_, rfl⟩
  obtain ⟨w2, hw2⟩ : ∃ w2, w2 = w1.alloc (.cells #[.int .i64 k0, .int .i64 n0, .slice a0 N0 c0, .int .i64 k1, .int .i64 n1, .slice a1 N1 c1, .int .i64 k2, .int .i64 n2, .slice a2 N2 c2] 46) := ⟨_, rfl⟩
  have m0 := heap_alloc_new w (.cells #[.int .i64 k0, .int .i64 n0, .slice a0 N0 c0, .int .i64 k1, .int .i64 n1, .slice a1 N1 c1, .int .i64 k2, .int .i64 n2, .slice a2 N2 c2] 66)
  have m1 := heap_alloc_new w1 (.cells #[.int .i64 k0, .int .i64 n0, .slice a0 N0 c0, .int .i64 k1, .int .i64 n1, .slice a1 N1 c1, .int .i64 k2, .int .i64 n2, .slice a2 N2 c2] 46)
  rw [← hw1] at m0
  rw [← hw2] at m1
  have b1 : Below w.heap.size w w1 := by rw [hw1]; exact (Below.refl _ w).alloc (Nat.le_refl _) _
  have b12 : Below w1.heap.size w1 w2 := by rw [hw2]; exact (Below.refl _ w1).alloc (Nat.le_refl _) _
  obtain ⟨X, hX⟩ : ∃ X, X = w.heap.size := ⟨_, rfl⟩
  obtain ⟨Y, hY⟩ : ∃ Y, Y = w1.heap.size := ⟨_, rfl⟩
  rw [← hX] at m0
  rw [← hY] at m1
  have hXw : X < w1.heap.size := (Array.getElem?_eq_some_iff.1 m0).1
  have b2 := nextB b1 b12
  have m0' : w2.heap[X]? = some (.cells #[.int .i64 k0, .int .i64 n0, .slice a0 N0 c0, .int .i64 k1, .int .i64 n1, .slice a1 N1 c1, .int .i64 k2, .int .i64 n2, .slice a2 N2 c2] 66 (0, 0)) := (b12.block _ hXw).trans m0
  have k21 : Calls Tryz.prog 21 #[.slice (some ⟨Y, 0, none⟩) 3 3] w2 fun e w' => e = .returned (.bool (decide (400 < N0 + N1 + N2))) ∧ w' = w2 := by
    have hla : LensAt w2 Y [N0, N1, N2] := fun i n hi => by
      match i, hi with
      | 0, hi => cases hi; exact ⟨a0, c0, (cell_of_row _ _ 2 _ 46 (0, 0) m1).trans rfl⟩
      | 1, hi => cases hi; exact ⟨a1, c1, (cell_of_row _ _ 5 _ 46 (0, 0) m1).trans rfl⟩
      | 2, hi => cases hi; exact ⟨a2, c2, (cell_of_row _ _ 8 _ 46 (0, 0) m1).trans rfl⟩
    have := much_any (c := 3) hla (fun n hn => by
      simp only [List.mem_cons, List.not_mem_nil, or_false] at hn
      have := h0.len; have := h1.len; have := h2.len
      rcases hn with rfl | rfl | rfl <;> omega) (by simp)
    rw [show [N0, N1, N2].sum = N0 + N1 + N2 by simp; omega] at this
    exact this
  have k7 : ∀ W, Below w.heap.size w W → Calls Tryz.prog 7 #[] W fun e w' => e = .returned (.bool true) ∧ Below W.heap.size W w' := fun W hW => known_any (hT.below hW)
  rw [← hN0, ← hN1, ← hN2]
  have x0 : w1.cell? ⟨X, 0, none⟩ = some (.int .i64 k0) := (cell_of_row _ _ 0 _ 66 (0, 0) m0).trans rfl
  have x1 : w1.cell? ⟨X, 1, none⟩ = some (.int .i64 n0) := (cell_of_row _ _ 1 _ 66 (0, 0) m0).trans rfl
  have x2 : w1.cell? ⟨X, 2, none⟩ = some (.slice a0 N0 c0) := (cell_of_row _ _ 2 _ 66 (0, 0) m0).trans rfl
  have x3 : w1.cell? ⟨X, 3, none⟩ = some (.int .i64 k1) := (cell_of_row _ _ 3 _ 66 (0, 0) m0).trans rfl
  have x4 : w1.cell? ⟨X, 4, none⟩ = some (.int .i64 n1) := (cell_of_row _ _ 4 _ 66 (0, 0) m0).trans rfl
  have x5 : w1.cell? ⟨X, 5, none⟩ = some (.slice a1 N1 c1) := (cell_of_row _ _ 5 _ 66 (0, 0) m0).trans rfl
  have x6 : w1.cell? ⟨X, 6, none⟩ = some (.int .i64 k2) := (cell_of_row _ _ 6 _ 66 (0, 0) m0).trans rfl
  have x7 : w1.cell? ⟨X, 7, none⟩ = some (.int .i64 n2) := (cell_of_row _ _ 7 _ 66 (0, 0) m0).trans rfl
  have x8 : w1.cell? ⟨X, 8, none⟩ = some (.slice a2 N2 c2) := (cell_of_row _ _ 8 _ 66 (0, 0) m0).trans rfl
  have H := hide (And.intro h0 (And.intro h1 (And.intro h2 (And.intro hT (And.intro hN0 (And.intro hN1 hN2))))))
  have HW := hide (And.intro hw1 (And.intro hX (And.intro hw2 (And.intro hY (And.intro b2 m0')))))
  clear h0 h1 h2 hT hN0 hN1 hN2 hw1 hX hw2 hY m0 m1 m0' b1 b12 hXw
  by_cases hmu : 400 < N0 + N1 + N2
  · have dm : decide (400 < N0 + N1 + N2) = true := by simpa using hmu
    rw [dm] at k21
    have K7 := hide (k7 w2 b2)
    clear k7 b2 dm
    go_enter Tryz.func5, Tryz.ntmps5
    go_upto_region 1 with fail
    obtain ⟨t1, t2, -⟩ := HW.out
    rw [← t1, ← t2]
    clear t1 t2
    go_wp2_with (first
      | (go_at_call 21; (have t3 := HW.out.2.2.1; have t4 := HW.out.2.2.2.1; rw [← t4, ← t3]; clear t3 t4); refine k21.mono ?_; rintro e w3 ⟨rfl, hw3⟩; obtain rfl : w2 = w3 := hw3.symm; clear hw3; dsimp only)
      | (go_at_call 7; refine K7.out.mono ?_; rintro e w4 ⟨rfl, b4⟩; have HB := hide b4; clear b4; dsimp only))
    go_ret
    exact ⟨rfl, nextB HW.out.2.2.2.2.1 HB.out⟩
  have dm : decide (400 < N0 + N1 + N2) = false := by simpa using hmu
  rw [dm] at k21
  clear dm
  go_enter Tryz.func5, Tryz.ntmps5
  go_upto_region 1 with fail
  obtain ⟨t1, t2, -⟩ := HW.out
  rw [← t1, ← t2]
  clear t1 t2
  go_upto_region 3 with (go_at_call 21; (have t3 := HW.out.2.2.1; have t4 := HW.out.2.2.2.1; rw [← t4, ← t3]; clear t3 t4); refine k21.mono ?_; rintro e w3 ⟨rfl, hw3⟩; obtain rfl : w2 = w3 := hw3.symm; clear hw3; dsimp only)
  clear x0 x1 x2 x3 x4 x5 x6 x7 x8
  have mX := HW.out.2.2.2.2.2
  refine wp_t3 (l0 := l0) (l1 := l1) (l2 := l2) rfl H.out.2.2.2.2.1 H.out.2.2.2.2.2.1 H.out.2.2.2.2.2.2 rfl ((cell_of_row _ _ 0 _ 66 (0, 0) mX).trans rfl) ((cell_of_row _ _ 1 _ 66 (0, 0) mX).trans rfl) ((cell_of_row _ _ 2 _ 66 (0, 0) mX).trans rfl) ((cell_of_row _ _ 3 _ 66 (0, 0) mX).trans rfl) ((cell_of_row _ _ 4 _ 66 (0, 0) mX).trans rfl) ((cell_of_row _ _ 5 _ 66 (0, 0) mX).trans rfl) ((cell_of_row _ _ 6 _ 66 (0, 0) mX).trans rfl) ((cell_of_row _ _ 7 _ 66 (0, 0) mX).trans rfl) ((cell_of_row _ _ 8 _ 66 (0, 0) mX).trans rfl) (H.out.1.below b2).re (H.out.2.1.below b2).re (H.out.2.2.1.below b2).re H.out.1.nil H.out.2.1.nil H.out.2.2.1.nil (by have := H.out.2.2.2.2.1; omega) (by have := H.out.2.2.2.2.2.1; omega) (by have := H.out.2.2.2.2.2.2; omega) (fun _ _ _ _ _ h => h) ?_
  intro g0 d0 g1 d1 g2 d2 B9 B10 B11 w3 HT
  clear mX
  simp only [Act.put, List.setIfInBounds_toArray, List.set_cons_zero, List.set_cons_succ]
  obtain ⟨R, hR⟩ : ∃ R, R = threeV k0 n0 l0 k1 n1 l1 k2 n2 l2 := ⟨_, rfl⟩
  have hRl : R.2.2.1.length ≤ 1000 := by
    have h1 := threeV_len k0 n0 k1 n1 k2 n2 l0 l1 l2
    rw [← hR] at h1
    have := H.out.2.2.2.2.2.1; have := H.out.2.2.2.2.2.2; omega
  have k33 : Calls Tryz.prog 33 #[vv k0 n0 (some ⟨g0, 0, none⟩) N0 d0, vv k1 n1 (some ⟨g1, 0, none⟩) N1 d1, vv k2 n2 (some ⟨g2, 0, none⟩) N2 d2] w3 (ValE w3 R) := by
    have e0 := H.out.2.2.2.2.1; have e1 := H.out.2.2.2.2.2.1; have e2 := H.out.2.2.2.2.2.2
    have := three_any k0 n0 k1 n1 k2 n2 (copy_rv e0 HT.out.2.2.2.2.1) (copy_rv e1 HT.out.2.2.2.2.2.1) (copy_rv e2 HT.out.2.2.2.2.2.2.1) (by omega) (by omega) (by omega)
    rw [← e0, ← e1, ← e2, ← hR] at this
    exact this
  have HR := hide hR
  clear hR
  have bW3 := nextB b2 HT.out.1
  obtain ⟨p0, p1, p2, q0, q1, q2, r0, r1, r2⟩ : w3.cell? ⟨B9, 0, none⟩ = some (.int .i64 k0) ∧ w3.cell? ⟨B9, 1, none⟩ = some (.int .i64 n0) ∧ w3.cell? ⟨B9, 2, none⟩ = some (.slice (some ⟨g0, 0, none⟩) N0 d0) ∧ w3.cell? ⟨B10, 0, none⟩ = some (.int .i64 k1) ∧ w3.cell? ⟨B10, 1, none⟩ = some (.int .i64 n1) ∧ w3.cell? ⟨B10, 2, none⟩ = some (.slice (some ⟨g1, 0, none⟩) N1 d1) ∧ w3.cell? ⟨B11, 0, none⟩ = some (.int .i64 k2) ∧ w3.cell? ⟨B11, 1, none⟩ = some (.int .i64 n2) ∧ w3.cell? ⟨B11, 2, none⟩ = some (.slice (some ⟨g2, 0, none⟩) N2 d2) := ⟨(cell_of_row _ _ 0 _ 46 (0, 0) HT.out.2.1).trans rfl, (cell_of_row _ _ 1 _ 46 (0, 0) HT.out.2.1).trans rfl, (cell_of_row _ _ 2 _ 46 (0, 0) HT.out.2.1).trans rfl, (cell_of_row _ _ 0 _ 46 (0, 0) HT.out.2.2.1).trans rfl, (cell_of_row _ _ 1 _ 46 (0, 0) HT.out.2.2.1).trans rfl, (cell_of_row _ _ 2 _ 46 (0, 0) HT.out.2.2.1).trans rfl, (cell_of_row _ _ 0 _ 46 (0, 0) HT.out.2.2.2.1).trans rfl, (cell_of_row _ _ 1 _ 46 (0, 0) HT.out.2.2.2.1).trans rfl, (cell_of_row _ _ 2 _ 46 (0, 0) HT.out.2.2.2.1).trans rfl⟩
  go_upto_region 5 with (go_at_call 33; refine k33.mono ?_; rintro e w4 ⟨a4, c4, rfl, hn4, b4⟩; have H4 := hide (And.intro hn4 b4); clear hn4 b4 k33 p0 p1 p2 q0 q1 q2 r0 r1 r2; dsimp only)
  obtain ⟨w5, hw5⟩ : ∃ W, W = w4.alloc (.cells #[.int .i64 R.1, .int .i64 R.2.1, .slice a4 R.2.2.1.length c4] 46) := ⟨_, rfl⟩
  have b45 : Below w4.heap.size w4 w5 := by rw [hw5]; exact (Below.refl _ w4).alloc (Nat.le_refl _) _
  have r4 := heap_alloc_new w4 (.cells #[.int .i64 R.1, .int .i64 R.2.1, .slice a4 R.2.2.1.length c4] 46)
  rw [← hw5] at r4
  obtain ⟨B4, hB4⟩ : ∃ B, B = w4.heap.size := ⟨_, rfl⟩
  rw [← hB4] at r4
  rw [← hw5, ← hB4]
  have b35 := nextB H4.out.2 b45
  have bW5 := nextB bW3 b35
  have H5 := hide (And.intro b35 (And.intro bW5 (And.intro r4 b45)))
  clear hw5 hB4 b45 r4 b35
  have k34 : Calls Tryz.prog 34 #[vv k0 n0 a0 N0 c0, vv k1 n1 a1 N1 c1, vv k2 n2 a2 N2 c2] w5 (ValE w5 R) := by
    have e0 := H.out.2.2.2.2.1; have e1 := H.out.2.2.2.2.2.1; have e2 := H.out.2.2.2.2.2.2
    have := refThree_any k0 n0 k1 n1 k2 n2 (co := c0) (ca := c1) (cb := c2) (H.out.1.below bW5).re (H.out.2.1.below bW5).re (H.out.2.2.1.below bW5).re (by omega) (by omega) (by omega) H.out.1.lab H.out.2.1.lab H.out.2.2.1.lab
    rw [← e0, ← e1, ← e2, ← HR.out] at this
    exact this
  have mX5 : w5.heap[X]? = some (.cells #[.int .i64 k0, .int .i64 n0, .slice a0 N0 c0, .int .i64 k1, .int .i64 n1, .slice a1 N1 c1, .int .i64 k2, .int .i64 n2, .slice a2 N2 c2] 66 (0, 0)) := ((nextB HT.out.1 H5.out.1).block _ (Array.getElem?_eq_some_iff.1 HW.out.2.2.2.2.2).1).trans HW.out.2.2.2.2.2
  obtain ⟨x0, x1, x2, x3, x4, x5, x6, x7, x8⟩ : w5.cell? ⟨X, 0, none⟩ = some (.int .i64 k0) ∧ w5.cell? ⟨X, 1, none⟩ = some (.int .i64 n0) ∧ w5.cell? ⟨X, 2, none⟩ = some (.slice a0 N0 c0) ∧ w5.cell? ⟨X, 3, none⟩ = some (.int .i64 k1) ∧ w5.cell? ⟨X, 4, none⟩ = some (.int .i64 n1) ∧ w5.cell? ⟨X, 5, none⟩ = some (.slice a1 N1 c1) ∧ w5.cell? ⟨X, 6, none⟩ = some (.int .i64 k2) ∧ w5.cell? ⟨X, 7, none⟩ = some (.int .i64 n2) ∧ w5.cell? ⟨X, 8, none⟩ = some (.slice a2 N2 c2) := ⟨(cell_of_row _ _ 0 _ 66 (0, 0) mX5).trans rfl, (cell_of_row _ _ 1 _ 66 (0, 0) mX5).trans rfl, (cell_of_row _ _ 2 _ 66 (0, 0) mX5).trans rfl, (cell_of_row _ _ 3 _ 66 (0, 0) mX5).trans rfl, (cell_of_row _ _ 4 _ 66 (0, 0) mX5).trans rfl, (cell_of_row _ _ 5 _ 66 (0, 0) mX5).trans rfl, (cell_of_row _ _ 6 _ 66 (0, 0) mX5).trans rfl, (cell_of_row _ _ 7 _ 66 (0, 0) mX5).trans rfl, (cell_of_row _ _ 8 _ 66 (0, 0) mX5).trans rfl⟩
  clear mX5 bW3
  go_upto_region 6 with (go_at_call 34; refine k34.mono ?_; rintro e w6 ⟨a6, c6, rfl, hn6, b6⟩; have H6 := hide (And.intro hn6 b6); clear hn6 b6 k34 x0 x1 x2 x3 x4 x5 x6 x7 x8; dsimp only)
  obtain ⟨w7, hw7⟩ : ∃ W, W = w6.alloc (.cells #[.int .i64 R.1, .int .i64 R.2.1, .slice a6 R.2.2.1.length c6] 46) := ⟨_, rfl⟩
  have b67 : Below w6.heap.size w6 w7 := by rw [hw7]; exact (Below.refl _ w6).alloc (Nat.le_refl _) _
  have r6 := heap_alloc_new w6 (.cells #[.int .i64 R.1, .int .i64 R.2.1, .slice a6 R.2.2.1.length c6] 46)
  rw [← hw7] at r6
  obtain ⟨B6, hB6⟩ : ∃ B, B = w6.heap.size := ⟨_, rfl⟩
  rw [← hB6] at r6
  rw [← hw7, ← hB6]
  have b57 := nextB H6.out.2 b67
  have b37 := nextB H5.out.1 b57
  have H7 := hide (And.intro b57 (And.intro b37 (And.intro r6 b67)))
  clear hw7 hB6 b67 r6 b57 b37 bW5
  have mX7 : w7.heap[X]? = some (.cells #[.int .i64 k0, .int .i64 n0, .slice a0 N0 c0, .int .i64 k1, .int .i64 n1, .slice a1 N1 c1, .int .i64 k2, .int .i64 n2, .slice a2 N2 c2] 66 (0, 0)) := ((nextB HT.out.1 H7.out.2.1).block _ (Array.getElem?_eq_some_iff.1 HW.out.2.2.2.2.2).1).trans HW.out.2.2.2.2.2
  have mB9 : w7.heap[B9]? = some (.cells #[.int .i64 k0, .int .i64 n0, .slice (some ⟨g0, 0, none⟩) N0 d0] 46 (0, 0)) := (H7.out.2.1.block _ (Array.getElem?_eq_some_iff.1 HT.out.2.1).1).trans HT.out.2.1
  have mB10 : w7.heap[B10]? = some (.cells #[.int .i64 k1, .int .i64 n1, .slice (some ⟨g1, 0, none⟩) N1 d1] 46 (0, 0)) := (H7.out.2.1.block _ (Array.getElem?_eq_some_iff.1 HT.out.2.2.1).1).trans HT.out.2.2.1
  have mB11 : w7.heap[B11]? = some (.cells #[.int .i64 k2, .int .i64 n2, .slice (some ⟨g2, 0, none⟩) N2 d2] 46 (0, 0)) := (H7.out.2.1.block _ (Array.getElem?_eq_some_iff.1 HT.out.2.2.2.1).1).trans HT.out.2.2.2.1
  have mB4 : w7.heap[B4]? = some (.cells #[.int .i64 R.1, .int .i64 R.2.1, .slice a4 R.2.2.1.length c4] 46 (0, 0)) := (H7.out.1.block _ (Array.getElem?_eq_some_iff.1 H5.out.2.2.1).1).trans H5.out.2.2.1
  have mB6 := H7.out.2.2.1
  have hS : w7.cell? ⟨B9, 0, none⟩ = some (.int .i64 k0) ∧ w7.cell? ⟨B9, 1, none⟩ = some (.int .i64 n0) ∧ w7.cell? ⟨B9, 2, none⟩ = some (.slice (some ⟨g0, 0, none⟩) N0 d0) ∧ w7.cell? ⟨B10, 0, none⟩ = some (.int .i64 k1) ∧ w7.cell? ⟨B10, 1, none⟩ = some (.int .i64 n1) ∧ w7.cell? ⟨B10, 2, none⟩ = some (.slice (some ⟨g1, 0, none⟩) N1 d1) ∧ w7.cell? ⟨X, 0, none⟩ = some (.int .i64 k0) ∧ w7.cell? ⟨X, 1, none⟩ = some (.int .i64 n0) ∧ w7.cell? ⟨X, 2, none⟩ = some (.slice a0 N0 c0) ∧ w7.cell? ⟨X, 3, none⟩ = some (.int .i64 k1) ∧ w7.cell? ⟨X, 4, none⟩ = some (.int .i64 n1) ∧ w7.cell? ⟨X, 5, none⟩ = some (.slice a1 N1 c1) ∧ Below w7.heap.size w7 w7 := ⟨(cell_of_row _ _ 0 _ 46 (0, 0) mB9).trans rfl, (cell_of_row _ _ 1 _ 46 (0, 0) mB9).trans rfl, (cell_of_row _ _ 2 _ 46 (0, 0) mB9).trans rfl, (cell_of_row _ _ 0 _ 46 (0, 0) mB10).trans rfl, (cell_of_row _ _ 1 _ 46 (0, 0) mB10).trans rfl, (cell_of_row _ _ 2 _ 46 (0, 0) mB10).trans rfl, (cell_of_row _ _ 0 _ 66 (0, 0) mX7).trans rfl, (cell_of_row _ _ 1 _ 66 (0, 0) mX7).trans rfl, (cell_of_row _ _ 2 _ 66 (0, 0) mX7).trans rfl, (cell_of_row _ _ 3 _ 66 (0, 0) mX7).trans rfl, (cell_of_row _ _ 4 _ 66 (0, 0) mX7).trans rfl, (cell_of_row _ _ 5 _ 66 (0, 0) mX7).trans rfl, Below.refl _ _⟩
  obtain ⟨SV, hSV⟩ : ∃ S, S = sameV k0 n0 l0 k1 n1 l1 := ⟨_, rfl⟩
  have k26 : ∀ W, Below w7.heap.size w7 W → Calls Tryz.prog 26 #[vv k0 n0 (some ⟨g0, 0, none⟩) N0 d0, vv k1 n1 (some ⟨g1, 0, none⟩) N1 d1] W fun e w' => e = .returned (.bool SV) ∧ Below W.heap.size W w' := fun W hW => by
    have e0 := H.out.2.2.2.2.1; have e1 := H.out.2.2.2.2.2.1
    have := same_any k0 n0 k1 n1 (c := d0) (d := d1) ((copy_rv e0 HT.out.2.2.2.2.1).below (nextB H7.out.2.1 hW)).re ((copy_rv e1 HT.out.2.2.2.2.2.1).below (nextB H7.out.2.1 hW)).re (by omega) (by omega)
    rw [← e0, ← e1, ← hSV] at this
    exact this
  have k29a : ∀ W, Below w7.heap.size w7 W → Calls Tryz.prog 29 #[vv k0 n0 a0 N0 c0, vv k1 n1 a1 N1 c1] W fun e w' => e = .returned (.bool SV) ∧ Below W.heap.size W w' := fun W hW => by
    have e0 := H.out.2.2.2.2.1; have e1 := H.out.2.2.2.2.2.1
    have bb := nextB (nextB H5.out.2.1 H7.out.1) hW
    have := refSame_any k0 n0 k1 n1 (c := c0) (d := c1) (H.out.1.below bb).re (H.out.2.1.below bb).re (by omega) (by omega)
    rw [← e0, ← e1, ← hSV] at this
    exact this
  have HM := hide (And.intro mX7 (And.intro mB9 (And.intro mB10 (And.intro mB11 (And.intro mB4 mB6)))))
  clear hSV mX7 mB9 mB10 mB11 mB4 mB6
  have qd : w7.drew.cell? ⟨B9, 0, none⟩ = some (.int .i64 k0) ∧ w7.drew.cell? ⟨B9, 1, none⟩ = some (.int .i64 n0) ∧ w7.drew.cell? ⟨B9, 2, none⟩ = some (.slice (some ⟨g0, 0, none⟩) N0 d0) ∧ w7.drew.cell? ⟨B10, 0, none⟩ = some (.int .i64 k1) ∧ w7.drew.cell? ⟨B10, 1, none⟩ = some (.int .i64 n1) ∧ w7.drew.cell? ⟨B10, 2, none⟩ = some (.slice (some ⟨g1, 0, none⟩) N1 d1) ∧ w7.drew.cell? ⟨X, 0, none⟩ = some (.int .i64 k0) ∧ w7.drew.cell? ⟨X, 1, none⟩ = some (.int .i64 n0) ∧ w7.drew.cell? ⟨X, 2, none⟩ = some (.slice a0 N0 c0) ∧ w7.drew.cell? ⟨X, 3, none⟩ = some (.int .i64 k1) ∧ w7.drew.cell? ⟨X, 4, none⟩ = some (.int .i64 n1) ∧ w7.drew.cell? ⟨X, 5, none⟩ = some (.slice a1 N1 c1) ∧ Below w7.heap.size w7 w7.drew := ⟨cell_stays hS.1 (drew_below w7), cell_stays hS.2.1 (drew_below w7), cell_stays hS.2.2.1 (drew_below w7), cell_stays hS.2.2.2.1 (drew_below w7), cell_stays hS.2.2.2.2.1 (drew_below w7), cell_stays hS.2.2.2.2.2.1 (drew_below w7), cell_stays hS.2.2.2.2.2.2.1 (drew_below w7), cell_stays hS.2.2.2.2.2.2.2.1 (drew_below w7), cell_stays hS.2.2.2.2.2.2.2.2.1 (drew_below w7), cell_stays hS.2.2.2.2.2.2.2.2.2.1 (drew_below w7), cell_stays hS.2.2.2.2.2.2.2.2.2.2.1 (drew_below w7), cell_stays hS.2.2.2.2.2.2.2.2.2.2.2.1 (drew_below w7), nextB hS.2.2.2.2.2.2.2.2.2.2.2.2 (drew_below w7)⟩
  refine wp_region_held_drew (S := (fun w' => w'.cell? ⟨B9, 0, none⟩ = some (.int .i64 k0) ∧ w'.cell? ⟨B9, 1, none⟩ = some (.int .i64 n0) ∧ w'.cell? ⟨B9, 2, none⟩ = some (.slice (some ⟨g0, 0, none⟩) N0 d0) ∧ w'.cell? ⟨B10, 0, none⟩ = some (.int .i64 k1) ∧ w'.cell? ⟨B10, 1, none⟩ = some (.int .i64 n1) ∧ w'.cell? ⟨B10, 2, none⟩ = some (.slice (some ⟨g1, 0, none⟩) N1 d1) ∧ w'.cell? ⟨X, 0, none⟩ = some (.int .i64 k0) ∧ w'.cell? ⟨X, 1, none⟩ = some (.int .i64 n0) ∧ w'.cell? ⟨X, 2, none⟩ = some (.slice a0 N0 c0) ∧ w'.cell? ⟨X, 3, none⟩ = some (.int .i64 k1) ∧ w'.cell? ⟨X, 4, none⟩ = some (.int .i64 n1) ∧ w'.cell? ⟨X, 5, none⟩ = some (.slice a1 N1 c1) ∧ Below w7.heap.size w7 w')) (by kernel_rfl) qd (fun hHeld => ?_)
  try dsimp only at hHeld
  refine take_op (i := 0) (d := 46) (OP := Op.load 46 (Operand.tmp 3)) (T := 46) (v := ?vzz1) rfl rfl rfl rfl (by kernel_rfl) (by kernel_rfl) (by kernel_rfl) (fun _ _ _ h => h) (by rfl) ?hzz1 hHeld ?rzz1
  case hzz1 => (intro w' hSw; (try dsimp only at hSw); go_simp <;> with_reducible rfl)
  try simp only [Act.put, List.setIfInBounds_toArray, List.set_cons_zero, List.set_cons_succ]
  refine take_op (i := 1) (d := 47) (OP := Op.load 46 (Operand.tmp 4)) (T := 46) (v := ?vzz2) rfl rfl rfl rfl (by kernel_rfl) (by kernel_rfl) (by kernel_rfl) (fun _ _ _ h => h) (by rfl) ?hzz2 hHeld ?rzz2
  case hzz2 => (intro w' hSw; (try dsimp only at hSw); go_simp <;> with_reducible rfl)
  try simp only [Act.put, List.setIfInBounds_toArray, List.set_cons_zero, List.set_cons_succ]
  refine take_op (i := 3) (d := 49) (OP := Op.indexAddr 66 (Operand.tmp 1) (Operand.const (Value.int IntKind.i64 0))) (T := 0) (v := ?vzz3) rfl rfl rfl rfl (by kernel_rfl) (by kernel_rfl) (by kernel_rfl) (fun _ _ _ h => h) (by rfl) ?hzz3 hHeld ?rzz3
  case hzz3 => (intro w' hSw; (try dsimp only at hSw); go_simp <;> with_reducible rfl)
  try simp only [Act.put, List.setIfInBounds_toArray, List.set_cons_zero, List.set_cons_succ]
  refine take_op (i := 4) (d := 50) (OP := Op.load 46 (Operand.tmp 49)) (T := 46) (v := ?vzz4) rfl rfl rfl rfl (by kernel_rfl) (by kernel_rfl) (by kernel_rfl) (fun _ _ _ h => h) (by rfl) ?hzz4 hHeld ?rzz4
  case hzz4 => (intro w' hSw; (try dsimp only at hSw); go_simp <;> with_reducible rfl)
  try simp only [Act.put, List.setIfInBounds_toArray, List.set_cons_zero, List.set_cons_succ]
  refine take_op (i := 5) (d := 51) (OP := Op.indexAddr 66 (Operand.tmp 1) (Operand.const (Value.int IntKind.i64 1))) (T := 0) (v := ?vzz5) rfl rfl rfl rfl (by kernel_rfl) (by kernel_rfl) (by kernel_rfl) (fun _ _ _ h => h) (by rfl) ?hzz5 hHeld ?rzz5
  case hzz5 => (intro w' hSw; (try dsimp only at hSw); go_simp <;> with_reducible rfl)
  try simp only [Act.put, List.setIfInBounds_toArray, List.set_cons_zero, List.set_cons_succ]
  refine take_op (i := 6) (d := 52) (OP := Op.load 46 (Operand.tmp 51)) (T := 46) (v := ?vzz6) rfl rfl rfl rfl (by kernel_rfl) (by kernel_rfl) (by kernel_rfl) (fun _ _ _ h => h) (by rfl) ?hzz6 hHeld ?rzz6
  case hzz6 => (intro w' hSw; (try dsimp only at hSw); go_simp <;> with_reducible rfl)
  try simp only [Act.put, List.setIfInBounds_toArray, List.set_cons_zero, List.set_cons_succ]
  refine call_op (i := 2) (d := 48) (OP := Op.call { callee := Callee.value (Operand.func 26), args := #[Operand.tmp 46, Operand.tmp 47], argTypes := #[46, 46] }) (T := 4) (f := 26) (args := #[vv k0 n0 (some ⟨g0, 0, none⟩) N0 d0, vv k1 n1 (some ⟨g1, 0, none⟩) N1 d1]) rfl rfl rfl rfl (by kernel_rfl) (by rfl) (by go_simp) ?_
  refine (k26 _ hHeld.2.2.2.2.2.2.2.2.2.2.2.2).mono ?_
  rintro e z1 ⟨rfl, bz1⟩
  have qz1 : z1.cell? ⟨B9, 0, none⟩ = some (.int .i64 k0) ∧ z1.cell? ⟨B9, 1, none⟩ = some (.int .i64 n0) ∧ z1.cell? ⟨B9, 2, none⟩ = some (.slice (some ⟨g0, 0, none⟩) N0 d0) ∧ z1.cell? ⟨B10, 0, none⟩ = some (.int .i64 k1) ∧ z1.cell? ⟨B10, 1, none⟩ = some (.int .i64 n1) ∧ z1.cell? ⟨B10, 2, none⟩ = some (.slice (some ⟨g1, 0, none⟩) N1 d1) ∧ z1.cell? ⟨X, 0, none⟩ = some (.int .i64 k0) ∧ z1.cell? ⟨X, 1, none⟩ = some (.int .i64 n0) ∧ z1.cell? ⟨X, 2, none⟩ = some (.slice a0 N0 c0) ∧ z1.cell? ⟨X, 3, none⟩ = some (.int .i64 k1) ∧ z1.cell? ⟨X, 4, none⟩ = some (.int .i64 n1) ∧ z1.cell? ⟨X, 5, none⟩ = some (.slice a1 N1 c1) ∧ Below w7.heap.size w7 z1 := ⟨cell_stays hHeld.1 bz1, cell_stays hHeld.2.1 bz1, cell_stays hHeld.2.2.1 bz1, cell_stays hHeld.2.2.2.1 bz1, cell_stays hHeld.2.2.2.2.1 bz1, cell_stays hHeld.2.2.2.2.2.1 bz1, cell_stays hHeld.2.2.2.2.2.2.1 bz1, cell_stays hHeld.2.2.2.2.2.2.2.1 bz1, cell_stays hHeld.2.2.2.2.2.2.2.2.1 bz1, cell_stays hHeld.2.2.2.2.2.2.2.2.2.1 bz1, cell_stays hHeld.2.2.2.2.2.2.2.2.2.2.1 bz1, cell_stays hHeld.2.2.2.2.2.2.2.2.2.2.2.1 bz1, nextB hHeld.2.2.2.2.2.2.2.2.2.2.2.2 bz1⟩
  refine ⟨_, rfl, qz1, ?_⟩
  replace hHeld := qz1
  try simp only [Act.put, List.setIfInBounds_toArray, List.set_cons_zero, List.set_cons_succ]
  refine call_op (i := 7) (d := 53) (OP := Op.call { callee := Callee.value (Operand.func 29), args := #[Operand.tmp 50, Operand.tmp 52], argTypes := #[46, 46] }) (T := 4) (f := 29) (args := #[vv k0 n0 a0 N0 c0, vv k1 n1 a1 N1 c1]) rfl rfl rfl rfl (by kernel_rfl) (by rfl) (by go_simp) ?_
  refine (k29a _ hHeld.2.2.2.2.2.2.2.2.2.2.2.2).mono ?_
  rintro e w8 ⟨rfl, bw8⟩
  have qw8 : w8.cell? ⟨B9, 0, none⟩ = some (.int .i64 k0) ∧ w8.cell? ⟨B9, 1, none⟩ = some (.int .i64 n0) ∧ w8.cell? ⟨B9, 2, none⟩ = some (.slice (some ⟨g0, 0, none⟩) N0 d0) ∧ w8.cell? ⟨B10, 0, none⟩ = some (.int .i64 k1) ∧ w8.cell? ⟨B10, 1, none⟩ = some (.int .i64 n1) ∧ w8.cell? ⟨B10, 2, none⟩ = some (.slice (some ⟨g1, 0, none⟩) N1 d1) ∧ w8.cell? ⟨X, 0, none⟩ = some (.int .i64 k0) ∧ w8.cell? ⟨X, 1, none⟩ = some (.int .i64 n0) ∧ w8.cell? ⟨X, 2, none⟩ = some (.slice a0 N0 c0) ∧ w8.cell? ⟨X, 3, none⟩ = some (.int .i64 k1) ∧ w8.cell? ⟨X, 4, none⟩ = some (.int .i64 n1) ∧ w8.cell? ⟨X, 5, none⟩ = some (.slice a1 N1 c1) ∧ Below w7.heap.size w7 w8 := ⟨cell_stays hHeld.1 bw8, cell_stays hHeld.2.1 bw8, cell_stays hHeld.2.2.1 bw8, cell_stays hHeld.2.2.2.1 bw8, cell_stays hHeld.2.2.2.2.1 bw8, cell_stays hHeld.2.2.2.2.2.1 bw8, cell_stays hHeld.2.2.2.2.2.2.1 bw8, cell_stays hHeld.2.2.2.2.2.2.2.1 bw8, cell_stays hHeld.2.2.2.2.2.2.2.2.1 bw8, cell_stays hHeld.2.2.2.2.2.2.2.2.2.1 bw8, cell_stays hHeld.2.2.2.2.2.2.2.2.2.2.1 bw8, cell_stays hHeld.2.2.2.2.2.2.2.2.2.2.2.1 bw8, nextB hHeld.2.2.2.2.2.2.2.2.2.2.2.2 bw8⟩
  refine ⟨_, rfl, qw8, ?_⟩
  replace hHeld := qw8
  try simp only [Act.put, List.setIfInBounds_toArray, List.set_cons_zero, List.set_cons_succ]
  refine take_op (i := 8) (d := 54) (OP := Op.binOp BinOp.eql 4 (Operand.tmp 48) (Operand.tmp 53) 4) (T := 4) (v := .bool true) rfl rfl rfl rfl (by kernel_rfl) (by kernel_rfl) (by kernel_rfl) (fun _ _ _ h => h) (by rfl) ?hzz7 hHeld ?rzz7
  case hzz7 => (intro w' hSw; (try dsimp only at hSw); go_simp <;> (first | with_reducible rfl | (simp; done)))
  try simp only [Act.put, List.setIfInBounds_toArray, List.set_cons_zero, List.set_cons_succ]
  refine take_op (i := 9) (d := 10) (OP := Op.assign (Operand.tmp 54)) (T := 4) (v := ?vzz8) rfl rfl rfl rfl (by kernel_rfl) (by kernel_rfl) (by kernel_rfl) (fun _ _ _ h => h) (by rfl) ?hzz8 hHeld ?rzz8
  case hzz8 => (intro w' hSw; (try dsimp only at hSw); go_simp <;> with_reducible rfl)
  try simp only [Act.put, List.setIfInBounds_toArray, List.set_cons_zero, List.set_cons_succ]
  refine wpAnyH_done (by kernel_rfl) ?_ _
  have H8 := hide hHeld.2.2.2.2.2.2.2.2.2.2.2.2
  clear hHeld qd hS k26 k29a qz1 qw8 bz1 bw8
  have b78 := H8.out
  have b38 := nextB H7.out.2.1 b78
  have bw8 := nextB (nextB H5.out.2.1 H7.out.1) b78
  have mX : w8.heap[X]? = some (.cells #[.int .i64 k0, .int .i64 n0, .slice a0 N0 c0, .int .i64 k1, .int .i64 n1, .slice a1 N1 c1, .int .i64 k2, .int .i64 n2, .slice a2 N2 c2] 66 (0, 0)) := (b78.block _ (Array.getElem?_eq_some_iff.1 HM.out.1).1).trans HM.out.1
  have mB9 : w8.heap[B9]? = some (.cells #[.int .i64 k0, .int .i64 n0, .slice (some ⟨g0, 0, none⟩) N0 d0] 46 (0, 0)) := (b78.block _ (Array.getElem?_eq_some_iff.1 HM.out.2.1).1).trans HM.out.2.1
  have mB10 : w8.heap[B10]? = some (.cells #[.int .i64 k1, .int .i64 n1, .slice (some ⟨g1, 0, none⟩) N1 d1] 46 (0, 0)) := (b78.block _ (Array.getElem?_eq_some_iff.1 HM.out.2.2.1).1).trans HM.out.2.2.1
  have mB11 : w8.heap[B11]? = some (.cells #[.int .i64 k2, .int .i64 n2, .slice (some ⟨g2, 0, none⟩) N2 d2] 46 (0, 0)) := (b78.block _ (Array.getElem?_eq_some_iff.1 HM.out.2.2.2.1).1).trans HM.out.2.2.2.1
  have mB4 : w8.heap[B4]? = some (.cells #[.int .i64 R.1, .int .i64 R.2.1, .slice a4 R.2.2.1.length c4] 46 (0, 0)) := (b78.block _ (Array.getElem?_eq_some_iff.1 HM.out.2.2.2.2.1).1).trans HM.out.2.2.2.2.1
  have mB6 : w8.heap[B6]? = some (.cells #[.int .i64 R.1, .int .i64 R.2.1, .slice a6 R.2.2.1.length c6] 46 (0, 0)) := (b78.block _ (Array.getElem?_eq_some_iff.1 HM.out.2.2.2.2.2).1).trans HM.out.2.2.2.2.2
  have O0 := HT.out.2.2.2.2.1.below b38
  have G0 := HT.out.2.2.2.2.1.blk
  obtain ⟨S0, RR0, -⟩ := O0.rowE
  have ne0X : X ≠ g0 := fun e => row_ne RR0 mX (by decide) e.symm
  have ne0B9 : B9 ≠ g0 := fun e => row_ne RR0 mB9 (by decide) e.symm
  have ne0B10 : B10 ≠ g0 := fun e => row_ne RR0 mB10 (by decide) e.symm
  have ne0B11 : B11 ≠ g0 := fun e => row_ne RR0 mB11 (by decide) e.symm
  have ne0B4 : B4 ≠ g0 := fun e => row_ne RR0 mB4 (by decide) e.symm
  have ne0B6 : B6 ≠ g0 := fun e => row_ne RR0 mB6 (by decide) e.symm
  have O1 := HT.out.2.2.2.2.2.1.below b38
  have G1 := HT.out.2.2.2.2.2.1.blk
  obtain ⟨S1, RR1, -⟩ := O1.rowE
  have ne1X : X ≠ g1 := fun e => row_ne RR1 mX (by decide) e.symm
  have ne1B9 : B9 ≠ g1 := fun e => row_ne RR1 mB9 (by decide) e.symm
  have ne1B10 : B10 ≠ g1 := fun e => row_ne RR1 mB10 (by decide) e.symm
  have ne1B11 : B11 ≠ g1 := fun e => row_ne RR1 mB11 (by decide) e.symm
  have ne1B4 : B4 ≠ g1 := fun e => row_ne RR1 mB4 (by decide) e.symm
  have ne1B6 : B6 ≠ g1 := fun e => row_ne RR1 mB6 (by decide) e.symm
  have O2 := HT.out.2.2.2.2.2.2.1.below b38
  have G2 := HT.out.2.2.2.2.2.2.1.blk
  obtain ⟨S2, RR2, -⟩ := O2.rowE
  have ne2X : X ≠ g2 := fun e => row_ne RR2 mX (by decide) e.symm
  have ne2B9 : B9 ≠ g2 := fun e => row_ne RR2 mB9 (by decide) e.symm
  have ne2B10 : B10 ≠ g2 := fun e => row_ne RR2 mB10 (by decide) e.symm
  have ne2B11 : B11 ≠ g2 := fun e => row_ne RR2 mB11 (by decide) e.symm
  have ne2B4 : B4 ≠ g2 := fun e => row_ne RR2 mB4 (by decide) e.symm
  have ne2B6 : B6 ≠ g2 := fun e => row_ne RR2 mB6 (by decide) e.symm
  have hsz2 := HT.out.1.size
  have hszw := b2.size
  have up : ∀ W, Only (fun j => j = g0 ∨ j = g1 ∨ j = g2) w8 W → W.cell? ⟨X, 0, none⟩ = some (.int .i64 k0) ∧ W.cell? ⟨X, 1, none⟩ = some (.int .i64 n0) ∧ W.cell? ⟨X, 2, none⟩ = some (.slice a0 N0 c0) ∧ W.cell? ⟨X, 3, none⟩ = some (.int .i64 k1) ∧ W.cell? ⟨X, 4, none⟩ = some (.int .i64 n1) ∧ W.cell? ⟨X, 5, none⟩ = some (.slice a1 N1 c1) ∧ W.cell? ⟨X, 6, none⟩ = some (.int .i64 k2) ∧ W.cell? ⟨X, 7, none⟩ = some (.int .i64 n2) ∧ W.cell? ⟨X, 8, none⟩ = some (.slice a2 N2 c2) ∧ W.cell? ⟨B9, 0, none⟩ = some (.int .i64 k0) ∧ W.cell? ⟨B9, 1, none⟩ = some (.int .i64 n0) ∧ W.cell? ⟨B9, 2, none⟩ = some (.slice (some ⟨g0, 0, none⟩) N0 d0) ∧ W.cell? ⟨B10, 0, none⟩ = some (.int .i64 k1) ∧ W.cell? ⟨B10, 1, none⟩ = some (.int .i64 n1) ∧ W.cell? ⟨B10, 2, none⟩ = some (.slice (some ⟨g1, 0, none⟩) N1 d1) ∧ W.cell? ⟨B11, 0, none⟩ = some (.int .i64 k2) ∧ W.cell? ⟨B11, 1, none⟩ = some (.int .i64 n2) ∧ W.cell? ⟨B11, 2, none⟩ = some (.slice (some ⟨g2, 0, none⟩) N2 d2) ∧ W.cell? ⟨B4, 0, none⟩ = some (.int .i64 R.1) ∧ W.cell? ⟨B4, 1, none⟩ = some (.int .i64 R.2.1) ∧ W.cell? ⟨B4, 2, none⟩ = some (.slice a4 R.2.2.1.length c4) ∧ W.cell? ⟨B6, 0, none⟩ = some (.int .i64 R.1) ∧ W.cell? ⟨B6, 1, none⟩ = some (.int .i64 R.2.1) ∧ W.cell? ⟨B6, 2, none⟩ = some (.slice a6 R.2.2.1.length c6) := fun W hW => by
    have zX := (hW.block _ (Array.getElem?_eq_some_iff.1 mX).1 (fun e => by rcases e with e | e | e; exact ne0X e; exact ne1X e; exact ne2X e)).trans mX
    have zB9 := (hW.block _ (Array.getElem?_eq_some_iff.1 mB9).1 (fun e => by rcases e with e | e | e; exact ne0B9 e; exact ne1B9 e; exact ne2B9 e)).trans mB9
    have zB10 := (hW.block _ (Array.getElem?_eq_some_iff.1 mB10).1 (fun e => by rcases e with e | e | e; exact ne0B10 e; exact ne1B10 e; exact ne2B10 e)).trans mB10
    have zB11 := (hW.block _ (Array.getElem?_eq_some_iff.1 mB11).1 (fun e => by rcases e with e | e | e; exact ne0B11 e; exact ne1B11 e; exact ne2B11 e)).trans mB11
    have zB4 := (hW.block _ (Array.getElem?_eq_some_iff.1 mB4).1 (fun e => by rcases e with e | e | e; exact ne0B4 e; exact ne1B4 e; exact ne2B4 e)).trans mB4
    have zB6 := (hW.block _ (Array.getElem?_eq_some_iff.1 mB6).1 (fun e => by rcases e with e | e | e; exact ne0B6 e; exact ne1B6 e; exact ne2B6 e)).trans mB6
    exact ⟨(cell_of_row _ _ 0 _ 66 (0, 0) zX).trans rfl, (cell_of_row _ _ 1 _ 66 (0, 0) zX).trans rfl, (cell_of_row _ _ 2 _ 66 (0, 0) zX).trans rfl, (cell_of_row _ _ 3 _ 66 (0, 0) zX).trans rfl, (cell_of_row _ _ 4 _ 66 (0, 0) zX).trans rfl, (cell_of_row _ _ 5 _ 66 (0, 0) zX).trans rfl, (cell_of_row _ _ 6 _ 66 (0, 0) zX).trans rfl, (cell_of_row _ _ 7 _ 66 (0, 0) zX).trans rfl, (cell_of_row _ _ 8 _ 66 (0, 0) zX).trans rfl, (cell_of_row _ _ 0 _ 46 (0, 0) zB9).trans rfl, (cell_of_row _ _ 1 _ 46 (0, 0) zB9).trans rfl, (cell_of_row _ _ 2 _ 46 (0, 0) zB9).trans rfl, (cell_of_row _ _ 0 _ 46 (0, 0) zB10).trans rfl, (cell_of_row _ _ 1 _ 46 (0, 0) zB10).trans rfl, (cell_of_row _ _ 2 _ 46 (0, 0) zB10).trans rfl, (cell_of_row _ _ 0 _ 46 (0, 0) zB11).trans rfl, (cell_of_row _ _ 1 _ 46 (0, 0) zB11).trans rfl, (cell_of_row _ _ 2 _ 46 (0, 0) zB11).trans rfl, (cell_of_row _ _ 0 _ 46 (0, 0) zB4).trans rfl, (cell_of_row _ _ 1 _ 46 (0, 0) zB4).trans rfl, (cell_of_row _ _ 2 _ 46 (0, 0) zB4).trans rfl, (cell_of_row _ _ 0 _ 46 (0, 0) zB6).trans rfl, (cell_of_row _ _ 1 _ 46 (0, 0) zB6).trans rfl, (cell_of_row _ _ 2 _ 46 (0, 0) zB6).trans rfl⟩
  have e0 := H.out.2.2.2.2.1; have e1 := H.out.2.2.2.2.2.1; have e2 := H.out.2.2.2.2.2.2
  have re0 : ∀ (D : Nat → Prop) W, Only D w8 W → (∀ j, D j → w.heap.size ≤ j) → Re W a0 l0 := fun D W hW hD => (H.out.1.below bw8).re.onlyN hW (fun hne a ha hd => by have := H.out.1.re.lt hne a ha; have := hD _ hd; omega)
  have re1 : ∀ (D : Nat → Prop) W, Only D w8 W → (∀ j, D j → w.heap.size ≤ j) → Re W a1 l1 := fun D W hW hD => (H.out.2.1.below bw8).re.onlyN hW (fun hne a ha hd => by have := H.out.2.1.re.lt hne a ha; have := hD _ hd; omega)
  have re2 : ∀ (D : Nat → Prop) W, Only D w8 W → (∀ j, D j → w.heap.size ≤ j) → Re W a2 l2 := fun D W hW hD => (H.out.2.2.1.below bw8).re.onlyN hW (fun hne a ha hd => by have := H.out.2.2.1.re.lt hne a ha; have := hD _ hd; omega)
  have kL0 : Calls Tryz.prog 28 #[vv k0 n0 (some ⟨g0, 0, none⟩) N0 d0, vv k0 n0 a0 N0 c0] w8 fun e w' => e = .returned (.bool true) ∧ Only (fun j => j = g0) w8 w' := by
    have := left_any k0 n0 (c := c0) (l := l0) (by rw [← e0]; exact O0) (H.out.1.below bw8).re (by omega)
    rw [← e0] at this
    exact this
  have kL1 : ∀ W, Only (fun j => j = g0) w8 W → Calls Tryz.prog 28 #[vv k1 n1 (some ⟨g1, 0, none⟩) N1 d1, vv k1 n1 a1 N1 c1] W fun e w' => e = .returned (.bool true) ∧ Only (fun j => j = g1) W w' := fun W hW => by
    have := left_any k1 n1 (c := c1) (l := l1) (by rw [← e1]; exact O1.only hW (fun k hk e => by simp only [Value.ownBlock, Option.some.injEq] at hk; exact HT.out.2.2.2.2.2.2.2.1 (by omega))) (re1 _ W hW (fun j e => by omega)) (by omega)
    rw [← e1] at this
    exact this
  have kL2 : ∀ W, Only (fun j => j = g0 ∨ j = g1) w8 W → Calls Tryz.prog 28 #[vv k2 n2 (some ⟨g2, 0, none⟩) N2 d2, vv k2 n2 a2 N2 c2] W fun e w' => e = .returned (.bool true) ∧ Only (fun j => j = g2) W w' := fun W hW => by
    have := left_any k2 n2 (c := c2) (l := l2) (by rw [← e2]; exact O2.only hW (fun k hk e => by simp only [Value.ownBlock, Option.some.injEq] at hk; have := HT.out.2.2.2.2.2.2.2.2.1; have := HT.out.2.2.2.2.2.2.2.2.2; omega)) (re2 _ W hW (fun j e => by omega)) (by omega)
    rw [← e2] at this
    exact this
  have k29 : ∀ W, Only (fun j => j = g0 ∨ j = g1 ∨ j = g2) w8 W → Calls Tryz.prog 29 #[vv R.1 R.2.1 a4 R.2.2.1.length c4, vv R.1 R.2.1 a6 R.2.2.1.length c6] W fun e w' => e = .returned (.bool true) ∧ Below W.heap.size W w' := fun W hW => by
    have x4 : Re w8 a4 R.2.2.1 := ((H4.out.1.rv.re.below H5.out.2.2.2).below H7.out.1).below b78
    have x6 : Re w8 a6 R.2.2.1 := (H6.out.1.rv.re.below H7.out.2.2.2).below b78
    have s5 := H5.out.1.size
    have y4 := x4.onlyN hW (fun _ a ha hd => by have := H4.out.1.new a ha; omega)
    have y6 := x6.onlyN hW (fun _ a ha hd => by have := H6.out.1.new a ha; omega)
    have := refSame_any R.1 R.2.1 R.1 R.2.1 (c := c4) (d := c6) y4 y6 (by omega) (by omega)
    rw [show sameV R.1 R.2.1 R.2.2.1 R.1 R.2.1 R.2.2.1 = true by simp [sameV]] at this
    exact this
  have bfin : ∀ W, Only (fun j => j = g0 ∨ j = g1 ∨ j = g2) w8 W → Below w.heap.size w W := fun W hW => Below.only bw8 hW bw8.size (fun j e => by omega)
  have k7' : ∀ W, Only (fun j => j = g0 ∨ j = g1 ∨ j = g2) w8 W → Calls Tryz.prog 7 #[] W fun e w' => e = .returned (.bool true) ∧ Below W.heap.size W w' := fun W hW => k7 W (bfin W hW)
  replace up := hide up
  replace bfin := hide bfin
  have o8 : Only (fun j => j = g0 ∨ j = g1 ∨ j = g2) w8 w8 := Only.refl _ _
  obtain ⟨x0, x1, x2, x3, x4, x5, x6, x7, x8, p0, p1, p2, q0, q1, q2, r0, r1, r2, s0, s1, s2, v0, v1, v2⟩ := up.out w8 o8
  clear k7 b78 b38 bw8 hsz2 hszw e0 e1 e2 re0 re1 re2 hRl b2 o8 O0 G0 RR0 ne0X ne0B9 ne0B10 ne0B11 ne0B4 ne0B6 O1 G1 RR1 ne1X ne1B9 ne1B10 ne1B11 ne1B4 ne1B6 O2 G2 RR2 ne2X ne2B9 ne2B10 ne2B11 ne2B4 ne2B6 mX mB9 mB10 mB11 mB4 mB6
  go_wp2_with (first
    | (go_at_call 28; refine kL0.mono ?_; rintro e w9 ⟨rfl, o9⟩; have H9 := hide (And.intro o9 (o9.mono (fun j _ e => Or.inl e) : Only (fun j => j = g0 ∨ j = g1 ∨ j = g2) w8 w9)); clear x0 x1 x2 x3 x4 x5 x6 x7 x8 p0 p1 p2 q0 q1 q2 r0 r1 r2 s0 s1 s2 v0 v1 v2 o9 kL0; obtain ⟨x0, x1, x2, x3, x4, x5, x6, x7, x8, p0, p1, p2, q0, q1, q2, r0, r1, r2, s0, s1, s2, v0, v1, v2⟩ := up.out w9 H9.out.2; dsimp only)
    | (go_at_call 28; refine (kL1 _ H9.out.1).mono ?_; rintro e w10 ⟨rfl, o10⟩; have H10 := hide (two_only H9.out.1 o10); have K10 := hide (H10.out.mono (fun j _ e => e.elim Or.inl (fun e => Or.inr (Or.inl e))) : Only (fun j => j = g0 ∨ j = g1 ∨ j = g2) w8 w10); clear x0 x1 x2 x3 x4 x5 x6 x7 x8 p0 p1 p2 q0 q1 q2 r0 r1 r2 s0 s1 s2 v0 v1 v2 o10 kL1; obtain ⟨x0, x1, x2, x3, x4, x5, x6, x7, x8, p0, p1, p2, q0, q1, q2, r0, r1, r2, s0, s1, s2, v0, v1, v2⟩ := up.out w10 K10.out; dsimp only)
    | (go_at_call 28; refine (kL2 _ H10.out).mono ?_; rintro e w11 ⟨rfl, o11⟩; have H11 := hide (three_only H10.out o11); clear x0 x1 x2 x3 x4 x5 x6 x7 x8 p0 p1 p2 q0 q1 q2 r0 r1 r2 s0 s1 s2 v0 v1 v2 o11 kL2; obtain ⟨x0, x1, x2, x3, x4, x5, x6, x7, x8, p0, p1, p2, q0, q1, q2, r0, r1, r2, s0, s1, s2, v0, v1, v2⟩ := up.out w11 H11.out; dsimp only)
    | (go_at_call 29; refine (k29 _ H11.out).mono ?_; rintro e w12 ⟨rfl, b12⟩; have H12 := hide (H11.out.next (below_only b12)); clear x0 x1 x2 x3 x4 x5 x6 x7 x8 p0 p1 p2 q0 q1 q2 r0 r1 r2 s0 s1 s2 v0 v1 v2 b12 k29; obtain ⟨x0, x1, x2, x3, x4, x5, x6, x7, x8, p0, p1, p2, q0, q1, q2, r0, r1, r2, s0, s1, s2, v0, v1, v2⟩ := up.out w12 H12.out; dsimp only)
    | (go_at_call 12; refine (num_any _ _).mono ?_; rintro e wn ⟨rfl, hwn⟩; obtain rfl : w12 = wn := hwn.symm; clear hwn; dsimp only)
    | (go_at_call 7; refine (k7' _ H12.out).mono ?_; rintro e w13 ⟨rfl, b13⟩; have H13 := hide (H12.out.next (below_only b13)); clear x0 x1 x2 x3 x4 x5 x6 x7 x8 p0 p1 p2 q0 q1 q2 r0 r1 r2 s0 s1 s2 v0 v1 v2 b13; dsimp only))
  go_ret
  exact ⟨rfl, bfin.out _ H13.out⟩
end Go.Proofs.YtkdgageljgfgoaaGreatDoor
