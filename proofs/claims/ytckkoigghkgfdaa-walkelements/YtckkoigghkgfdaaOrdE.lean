/-
  WalkElements' region 11: calls in a row, and boxes that may be made at any time.
-/
import Derived.Test.YtckkoigghkgfdaaOrders
namespace Go.Proofs.Ytckkoigghkgfdaa
open Go.RowKit Go.Shelf
set_option linter.unusedSimpArgs false

/-- The region's operations. -/
def ops_regE : Array Oper := #[{ dst := some 60, op := Go.Op.load 29 (Go.Operand.tmp 3), type := 29, pos := "law.go:108", after := #[], guard := none }, { dst := some 61, op := Go.Op.move (Go.Operand.tmp 10), type := 22, pos := "law.go:108", after := #[], guard := none }, { dst := some 62, op := Go.Op.move (Go.Operand.tmp 12), type := 3, pos := "law.go:108", after := #[], guard := none }, { dst := some 63, op := Go.Op.indexAddr 22 (Go.Operand.tmp 61) (Go.Operand.tmp 62), type := 0, pos := "law.go:108", after := #[{ on := 1, ground := Go.Ground.data }, { on := 2, ground := Go.Ground.data }], guard := none }, { dst := some 64, op := Go.Op.load 9 (Go.Operand.tmp 63), type := 9, pos := "law.go:108", after := #[{ on := 3, ground := Go.Ground.data }], guard := none }, { dst := some 65, op := Go.Op.call { callee := Go.Callee.value (Go.Operand.func 12), args := #[Go.Operand.tmp 60, Go.Operand.tmp 64], argTypes := #[29, 9] }, type := 38, pos := "law.go:108", after := #[{ on := 0, ground := Go.Ground.data }, { on := 4, ground := Go.Ground.data }], guard := none }, { dst := some 66, op := Go.Op.load 29 (Go.Operand.tmp 4), type := 29, pos := "law.go:108", after := #[], guard := none }, { dst := some 67, op := Go.Op.move (Go.Operand.tmp 10), type := 22, pos := "law.go:108", after := #[], guard := none }, { dst := some 68, op := Go.Op.move (Go.Operand.tmp 12), type := 3, pos := "law.go:108", after := #[], guard := none }, { dst := some 69, op := Go.Op.indexAddr 22 (Go.Operand.tmp 67) (Go.Operand.tmp 68), type := 0, pos := "law.go:108", after := #[{ on := 7, ground := Go.Ground.data }, { on := 8, ground := Go.Ground.data }], guard := none }, { dst := some 70, op := Go.Op.load 9 (Go.Operand.tmp 69), type := 9, pos := "law.go:108", after := #[{ on := 9, ground := Go.Ground.data }], guard := none }, { dst := some 71, op := Go.Op.call { callee := Go.Callee.value (Go.Operand.func 12), args := #[Go.Operand.tmp 66, Go.Operand.tmp 70], argTypes := #[29, 9] }, type := 38, pos := "law.go:108", after := #[{ on := 6, ground := Go.Ground.data }, { on := 10, ground := Go.Ground.data }, { on := 5, ground := Go.Ground.chain }], guard := none }, { dst := some 72, op := Go.Op.load 29 (Go.Operand.tmp 5), type := 29, pos := "law.go:108", after := #[], guard := none }, { dst := some 73, op := Go.Op.move (Go.Operand.tmp 10), type := 22, pos := "law.go:108", after := #[], guard := none }, { dst := some 74, op := Go.Op.move (Go.Operand.tmp 12), type := 3, pos := "law.go:108", after := #[], guard := none }, { dst := some 75, op := Go.Op.indexAddr 22 (Go.Operand.tmp 73) (Go.Operand.tmp 74), type := 0, pos := "law.go:108", after := #[{ on := 13, ground := Go.Ground.data }, { on := 14, ground := Go.Ground.data }], guard := none }, { dst := some 76, op := Go.Op.load 9 (Go.Operand.tmp 75), type := 9, pos := "law.go:108", after := #[{ on := 15, ground := Go.Ground.data }], guard := none }, { dst := some 77, op := Go.Op.call { callee := Go.Callee.value (Go.Operand.func 12), args := #[Go.Operand.tmp 72, Go.Operand.tmp 76], argTypes := #[29, 9] }, type := 38, pos := "law.go:108", after := #[{ on := 12, ground := Go.Ground.data }, { on := 16, ground := Go.Ground.data }, { on := 11, ground := Go.Ground.chain }], guard := none }, { dst := some 13, op := Go.Op.alloc 38, type := 0, pos := "law.go:108", after := #[], guard := none }, { dst := some 14, op := Go.Op.alloc 38, type := 0, pos := "law.go:108", after := #[], guard := none }, { dst := some 15, op := Go.Op.alloc 38, type := 0, pos := "law.go:108", after := #[], guard := none }, { dst := none, op := Go.Op.store 38 (Go.Operand.tmp 13) (Go.Operand.tmp 65), type := 0, pos := "law.go:108", after := #[{ on := 18, ground := Go.Ground.data }, { on := 5, ground := Go.Ground.data }, { on := 17, ground := Go.Ground.chain }, { on := 0, ground := Go.Ground.phase }, { on := 1, ground := Go.Ground.phase }, { on := 2, ground := Go.Ground.phase }, { on := 3, ground := Go.Ground.phase }, { on := 4, ground := Go.Ground.phase }, { on := 5, ground := Go.Ground.phase }, { on := 6, ground := Go.Ground.textOnly Go.Departure.lateStores }, { on := 7, ground := Go.Ground.textOnly Go.Departure.lateStores }, { on := 8, ground := Go.Ground.textOnly Go.Departure.lateStores }, { on := 9, ground := Go.Ground.textOnly Go.Departure.lateStores }, { on := 10, ground := Go.Ground.textOnly Go.Departure.lateStores }, { on := 11, ground := Go.Ground.textOnly Go.Departure.lateStoresUnsure }, { on := 12, ground := Go.Ground.textOnly Go.Departure.lateStores }, { on := 13, ground := Go.Ground.textOnly Go.Departure.lateStores }, { on := 14, ground := Go.Ground.textOnly Go.Departure.lateStores }, { on := 15, ground := Go.Ground.textOnly Go.Departure.lateStores }, { on := 16, ground := Go.Ground.textOnly Go.Departure.lateStores }, { on := 17, ground := Go.Ground.textOnly Go.Departure.lateStoresUnsure }, { on := 18, ground := Go.Ground.phase }, { on := 19, ground := Go.Ground.phase }, { on := 20, ground := Go.Ground.phase }], guard := none }, { dst := none, op := Go.Op.store 38 (Go.Operand.tmp 14) (Go.Operand.tmp 71), type := 0, pos := "law.go:108", after := #[{ on := 19, ground := Go.Ground.data }, { on := 11, ground := Go.Ground.data }, { on := 21, ground := Go.Ground.chain }, { on := 0, ground := Go.Ground.phase }, { on := 1, ground := Go.Ground.phase }, { on := 2, ground := Go.Ground.phase }, { on := 3, ground := Go.Ground.phase }, { on := 4, ground := Go.Ground.phase }, { on := 5, ground := Go.Ground.phase }, { on := 6, ground := Go.Ground.phase }, { on := 7, ground := Go.Ground.phase }, { on := 8, ground := Go.Ground.phase }, { on := 9, ground := Go.Ground.phase }, { on := 10, ground := Go.Ground.phase }, { on := 11, ground := Go.Ground.phase }, { on := 12, ground := Go.Ground.textOnly Go.Departure.lateStores }, { on := 13, ground := Go.Ground.textOnly Go.Departure.lateStores }, { on := 14, ground := Go.Ground.textOnly Go.Departure.lateStores }, { on := 15, ground := Go.Ground.textOnly Go.Departure.lateStores }, { on := 16, ground := Go.Ground.textOnly Go.Departure.lateStores }, { on := 17, ground := Go.Ground.textOnly Go.Departure.lateStoresUnsure }, { on := 18, ground := Go.Ground.phase }, { on := 19, ground := Go.Ground.phase }, { on := 20, ground := Go.Ground.phase }, { on := 21, ground := Go.Ground.phase }], guard := none }, { dst := none, op := Go.Op.store 38 (Go.Operand.tmp 15) (Go.Operand.tmp 77), type := 0, pos := "law.go:108", after := #[{ on := 20, ground := Go.Ground.data }, { on := 17, ground := Go.Ground.data }, { on := 22, ground := Go.Ground.chain }, { on := 0, ground := Go.Ground.phase }, { on := 1, ground := Go.Ground.phase }, { on := 2, ground := Go.Ground.phase }, { on := 3, ground := Go.Ground.phase }, { on := 4, ground := Go.Ground.phase }, { on := 5, ground := Go.Ground.phase }, { on := 6, ground := Go.Ground.phase }, { on := 7, ground := Go.Ground.phase }, { on := 8, ground := Go.Ground.phase }, { on := 9, ground := Go.Ground.phase }, { on := 10, ground := Go.Ground.phase }, { on := 11, ground := Go.Ground.phase }, { on := 12, ground := Go.Ground.phase }, { on := 13, ground := Go.Ground.phase }, { on := 14, ground := Go.Ground.phase }, { on := 15, ground := Go.Ground.phase }, { on := 16, ground := Go.Ground.phase }, { on := 17, ground := Go.Ground.phase }, { on := 18, ground := Go.Ground.phase }, { on := 19, ground := Go.Ground.phase }, { on := 20, ground := Go.Ground.phase }, { on := 21, ground := Go.Ground.phase }, { on := 22, ground := Go.Ground.phase }], guard := none }]
set_option maxHeartbeats 4000000 in
theorem regE_any {Q : Exit → Act → World → Prop} {S : World → Prop} {a : Act} {w0 : World} {x5_0 x5_1 x11_0 x11_1 x17_0 x17_1 : Value} {C5 C11 C17 : Value → World → Prop}
    (e5_0 : a.eval (.tmp 60) = x5_0) (e5_1 : a.eval (.tmp 64) = x5_1) (e11_0 : a.eval (.tmp 66) = x11_0) (e11_1 : a.eval (.tmp 70) = x11_1) (e17_0 : a.eval (.tmp 72) = x17_0) (e17_1 : a.eval (.tmp 76) = x17_1)
    (hS : ∀ W, Below w0.heap.size w0 W → S W)
    (c5 : ∀ W, Below w0.heap.size w0 W → Calls Try.prog 12 #[x5_0, x5_1] W fun e w' => ∃ v, e = .returned v ∧ C5 v w' ∧ Below W.heap.size W w')
    (c11 : ∀ W, Below w0.heap.size w0 W → Calls Try.prog 12 #[x11_0, x11_1] W fun e w' => ∃ v, e = .returned v ∧ C11 v w' ∧ Below W.heap.size W w')
    (c17 : ∀ W, Below w0.heap.size w0 W → Calls Try.prog 12 #[x17_0, x17_1] W fun e w' => ∃ v, e = .returned v ∧ C17 v w' ∧ Below W.heap.size W w')
    (p5 : ∀ v W W', C5 v W → Below W.heap.size W W' → C5 v W') (p11 : ∀ v W W', C11 v W → Below W.heap.size W W' → C11 v W') (p17 : ∀ v W W', C17 v W → Below W.heap.size W W' → C17 v W')
    (fin : ∀ (v5 : Value) (v11 : Value) (v17 : Value) (B18 : Nat) (B19 : Nat) (B20 : Nat) (W : World), Below w0.heap.size w0 W → C5 v5 W → C11 v11 W → C17 v17 W → W.heap[B18]? = some (.cells #[.int .i64 0, .bool false] 38) → W.heap[B19]? = some (.cells #[.int .i64 0, .bool false] 38) → W.heap[B20]? = some (.cells #[.int .i64 0, .bool false] 38) → w0.heap.size ≤ B18 → w0.heap.size ≤ B19 → w0.heap.size ≤ B20 → B18 ≠ B19 → B18 ≠ B20 → B19 ≠ B20 → wpAnyH Try.prog .any ops_regE Q S 3 #[true, true, true, true, true, true, true, true, true, true, true, true, true, true, true, true, true, true, true, true, true, false, false, false] ((((((a.put (some 65) v5).put (some 71) v11).put (some 77) v17).put (some 13) (.pointer (some ⟨B18, 0, none⟩))).put (some 14) (.pointer (some ⟨B19, 0, none⟩))).put (some 15) (.pointer (some ⟨B20, 0, none⟩))) W) (W : World) (hW : Below w0.heap.size w0 W) :
    wpAnyH Try.prog .any ops_regE Q S 9 #[true, true, true, true, true, false, true, true, true, true, true, false, true, true, true, true, true, false, false, false, false, false, false, false] a W := by
  have zr : ∀ (W W' : World) (B : Nat) (o : Obj), W.heap[B]? = some o → Below W.heap.size W W' → W'.heap[B]? = some o := fun W W' B o h hb => (hb.block _ (Array.getElem?_eq_some_iff.1 h).1).trans h
  have zl : ∀ (W : World) (B : Nat) (o : Obj), W.heap[B]? = some o → B < W.heap.size := fun W B o h => (Array.getElem?_eq_some_iff.1 h).1
  have za : ∀ W : World, Below W.heap.size W (W.alloc (.cells #[.int .i64 0, .bool false] 38)) := fun W => (Below.refl _ W).alloc (Nat.le_refl _) _
  have h301_ : ∀ (v5 : Value) (v11 : Value) (v17 : Value) (B18 : Nat) (B19 : Nat) (W : World), Below w0.heap.size w0 W → C5 v5 W → C11 v11 W → C17 v17 W → W.heap[B18]? = some (.cells #[.int .i64 0, .bool false] 38) → W.heap[B19]? = some (.cells #[.int .i64 0, .bool false] 38) → w0.heap.size ≤ B18 → w0.heap.size ≤ B19 → B18 ≠ B19 → wpAnyH Try.prog .any ops_regE Q S 4 #[true, true, true, true, true, true, true, true, true, true, true, true, true, true, true, true, true, true, true, true, false, false, false, false] (((((a.put (some 65) v5).put (some 71) v11).put (some 77) v17).put (some 13) (.pointer (some ⟨B18, 0, none⟩))).put (some 14) (.pointer (some ⟨B19, 0, none⟩))) W := fun v5 v11 v17 B18 B19 W hb g5 g11 g17 r18 r19 l18 l19 n18_19 => by
    refine wpAnyH_ready (rs := [20]) (by kernel_rfl) (by simp) ?_
    refine AllReadyH.turn (d := 15) (OP := .alloc 38) (T := 0) (v := .pointer (some ⟨W.heap.size, 0, none⟩)) (w' := W.alloc (.cells #[.int .i64 0, .bool false] 38)) rfl rfl rfl rfl (by rfl) (by go_simp <;> rfl) (hS _ (hb.trans ((za W).mono hb.size))) ?_ ?_
    · exact fin v5 v11 v17 B18 B19 W.heap.size _ (hb.trans ((za W).mono hb.size)) (p5 _ _ _ g5 (za W)) (p11 _ _ _ g11 (za W)) (p17 _ _ _ g17 (za W)) (zr _ _ _ _ r18 (za W)) (zr _ _ _ _ r19 (za W)) (heap_alloc_new W _) l18 l19 hb.size n18_19 (fun e => by have := zl _ _ _ r18; omega) (fun e => by have := zl _ _ _ r19; omega)
    exact AllReadyH.nil
  have h302_ : ∀ (v5 : Value) (v11 : Value) (v17 : Value) (B18 : Nat) (B20 : Nat) (W : World), Below w0.heap.size w0 W → C5 v5 W → C11 v11 W → C17 v17 W → W.heap[B18]? = some (.cells #[.int .i64 0, .bool false] 38) → W.heap[B20]? = some (.cells #[.int .i64 0, .bool false] 38) → w0.heap.size ≤ B18 → w0.heap.size ≤ B20 → B18 ≠ B20 → wpAnyH Try.prog .any ops_regE Q S 4 #[true, true, true, true, true, true, true, true, true, true, true, true, true, true, true, true, true, true, true, false, true, false, false, false] (((((a.put (some 65) v5).put (some 71) v11).put (some 77) v17).put (some 13) (.pointer (some ⟨B18, 0, none⟩))).put (some 15) (.pointer (some ⟨B20, 0, none⟩))) W := fun v5 v11 v17 B18 B20 W hb g5 g11 g17 r18 r20 l18 l20 n18_20 => by
    refine wpAnyH_ready (rs := [19]) (by kernel_rfl) (by simp) ?_
    refine AllReadyH.turn (d := 14) (OP := .alloc 38) (T := 0) (v := .pointer (some ⟨W.heap.size, 0, none⟩)) (w' := W.alloc (.cells #[.int .i64 0, .bool false] 38)) rfl rfl rfl rfl (by rfl) (by go_simp <;> rfl) (hS _ (hb.trans ((za W).mono hb.size))) ?_ ?_
    · rw [put_comm (show 15 ≠ 14 by decide)]
      exact fin v5 v11 v17 B18 W.heap.size B20 _ (hb.trans ((za W).mono hb.size)) (p5 _ _ _ g5 (za W)) (p11 _ _ _ g11 (za W)) (p17 _ _ _ g17 (za W)) (zr _ _ _ _ r18 (za W)) (heap_alloc_new W _) (zr _ _ _ _ r20 (za W)) l18 hb.size l20 (fun e => by have := zl _ _ _ r18; omega) n18_20 (fun e => by have := zl _ _ _ r20; omega)
    exact AllReadyH.nil
  have h312_ : ∀ (v5 : Value) (v11 : Value) (v17 : Value) (B19 : Nat) (B20 : Nat) (W : World), Below w0.heap.size w0 W → C5 v5 W → C11 v11 W → C17 v17 W → W.heap[B19]? = some (.cells #[.int .i64 0, .bool false] 38) → W.heap[B20]? = some (.cells #[.int .i64 0, .bool false] 38) → w0.heap.size ≤ B19 → w0.heap.size ≤ B20 → B19 ≠ B20 → wpAnyH Try.prog .any ops_regE Q S 4 #[true, true, true, true, true, true, true, true, true, true, true, true, true, true, true, true, true, true, false, true, true, false, false, false] (((((a.put (some 65) v5).put (some 71) v11).put (some 77) v17).put (some 14) (.pointer (some ⟨B19, 0, none⟩))).put (some 15) (.pointer (some ⟨B20, 0, none⟩))) W := fun v5 v11 v17 B19 B20 W hb g5 g11 g17 r19 r20 l19 l20 n19_20 => by
    refine wpAnyH_ready (rs := [18]) (by kernel_rfl) (by simp) ?_
    refine AllReadyH.turn (d := 13) (OP := .alloc 38) (T := 0) (v := .pointer (some ⟨W.heap.size, 0, none⟩)) (w' := W.alloc (.cells #[.int .i64 0, .bool false] 38)) rfl rfl rfl rfl (by rfl) (by go_simp <;> rfl) (hS _ (hb.trans ((za W).mono hb.size))) ?_ ?_
    · rw [put_comm (show 15 ≠ 13 by decide), put_comm (show 14 ≠ 13 by decide)]
      exact fin v5 v11 v17 W.heap.size B19 B20 _ (hb.trans ((za W).mono hb.size)) (p5 _ _ _ g5 (za W)) (p11 _ _ _ g11 (za W)) (p17 _ _ _ g17 (za W)) (heap_alloc_new W _) (zr _ _ _ _ r19 (za W)) (zr _ _ _ _ r20 (za W)) hb.size l19 l20 (fun e => by have := zl _ _ _ r19; omega) (fun e => by have := zl _ _ _ r20; omega) n19_20
    exact AllReadyH.nil
  have h2012_ : ∀ (v5 : Value) (v11 : Value) (B18 : Nat) (B19 : Nat) (B20 : Nat) (W : World), Below w0.heap.size w0 W → C5 v5 W → C11 v11 W → W.heap[B18]? = some (.cells #[.int .i64 0, .bool false] 38) → W.heap[B19]? = some (.cells #[.int .i64 0, .bool false] 38) → W.heap[B20]? = some (.cells #[.int .i64 0, .bool false] 38) → w0.heap.size ≤ B18 → w0.heap.size ≤ B19 → w0.heap.size ≤ B20 → B18 ≠ B19 → B18 ≠ B20 → B19 ≠ B20 → wpAnyH Try.prog .any ops_regE Q S 4 #[true, true, true, true, true, true, true, true, true, true, true, true, true, true, true, true, true, false, true, true, true, false, false, false] (((((a.put (some 65) v5).put (some 71) v11).put (some 13) (.pointer (some ⟨B18, 0, none⟩))).put (some 14) (.pointer (some ⟨B19, 0, none⟩))).put (some 15) (.pointer (some ⟨B20, 0, none⟩))) W := fun v5 v11 B18 B19 B20 W hb g5 g11 r18 r19 r20 l18 l19 l20 n18_19 n18_20 n19_20 => by
    refine wpAnyH_ready (rs := [17]) (by kernel_rfl) (by simp) ?_
    refine AllReadyH.call (d := 77) (f := 12) (args := #[x17_0, x17_1]) (OP := .call { callee := .value (.func 12), args := #[.tmp 72, .tmp 76], argTypes := #[29, 9] }) (T := 38) rfl rfl rfl rfl (by rfl) (by have h0 := e17_0; have h1 := e17_1; simp [Act.eval, go_sem] at h0 h1; simp [execOp, resolve, invoke, go_sem, h0, h1]) ?_ ?_
    · refine (c17 W hb).mono ?_
      rintro e w' ⟨v17, rfl, g17, b'⟩
      have hb' := hb.trans (b'.mono hb.size)
      refine ⟨_, rfl, hS _ hb', ?_⟩
      rw [put_comm (show 15 ≠ 77 by decide), put_comm (show 14 ≠ 77 by decide), put_comm (show 13 ≠ 77 by decide)]
      exact fin v5 v11 v17 B18 B19 B20 w' hb' (p5 _ _ _ g5 b') (p11 _ _ _ g11 b') g17 (zr _ _ _ _ r18 b') (zr _ _ _ _ r19 b') (zr _ _ _ _ r20 b') l18 l19 l20 n18_19 n18_20 n19_20
    exact AllReadyH.nil
  have h30_ : ∀ (v5 : Value) (v11 : Value) (v17 : Value) (B18 : Nat) (W : World), Below w0.heap.size w0 W → C5 v5 W → C11 v11 W → C17 v17 W → W.heap[B18]? = some (.cells #[.int .i64 0, .bool false] 38) → w0.heap.size ≤ B18 → wpAnyH Try.prog .any ops_regE Q S 5 #[true, true, true, true, true, true, true, true, true, true, true, true, true, true, true, true, true, true, true, false, false, false, false, false] ((((a.put (some 65) v5).put (some 71) v11).put (some 77) v17).put (some 13) (.pointer (some ⟨B18, 0, none⟩))) W := fun v5 v11 v17 B18 W hb g5 g11 g17 r18 l18 => by
    refine wpAnyH_ready (rs := [19, 20]) (by kernel_rfl) (by simp) ?_
    refine AllReadyH.turn (d := 14) (OP := .alloc 38) (T := 0) (v := .pointer (some ⟨W.heap.size, 0, none⟩)) (w' := W.alloc (.cells #[.int .i64 0, .bool false] 38)) rfl rfl rfl rfl (by rfl) (by go_simp <;> rfl) (hS _ (hb.trans ((za W).mono hb.size))) ?_ ?_
    · exact h301_ v5 v11 v17 B18 W.heap.size _ (hb.trans ((za W).mono hb.size)) (p5 _ _ _ g5 (za W)) (p11 _ _ _ g11 (za W)) (p17 _ _ _ g17 (za W)) (zr _ _ _ _ r18 (za W)) (heap_alloc_new W _) l18 hb.size (fun e => by have := zl _ _ _ r18; omega)
    refine AllReadyH.turn (d := 15) (OP := .alloc 38) (T := 0) (v := .pointer (some ⟨W.heap.size, 0, none⟩)) (w' := W.alloc (.cells #[.int .i64 0, .bool false] 38)) rfl rfl rfl rfl (by rfl) (by go_simp <;> rfl) (hS _ (hb.trans ((za W).mono hb.size))) ?_ ?_
    · exact h302_ v5 v11 v17 B18 W.heap.size _ (hb.trans ((za W).mono hb.size)) (p5 _ _ _ g5 (za W)) (p11 _ _ _ g11 (za W)) (p17 _ _ _ g17 (za W)) (zr _ _ _ _ r18 (za W)) (heap_alloc_new W _) l18 hb.size (fun e => by have := zl _ _ _ r18; omega)
    exact AllReadyH.nil
  have h31_ : ∀ (v5 : Value) (v11 : Value) (v17 : Value) (B19 : Nat) (W : World), Below w0.heap.size w0 W → C5 v5 W → C11 v11 W → C17 v17 W → W.heap[B19]? = some (.cells #[.int .i64 0, .bool false] 38) → w0.heap.size ≤ B19 → wpAnyH Try.prog .any ops_regE Q S 5 #[true, true, true, true, true, true, true, true, true, true, true, true, true, true, true, true, true, true, false, true, false, false, false, false] ((((a.put (some 65) v5).put (some 71) v11).put (some 77) v17).put (some 14) (.pointer (some ⟨B19, 0, none⟩))) W := fun v5 v11 v17 B19 W hb g5 g11 g17 r19 l19 => by
    refine wpAnyH_ready (rs := [18, 20]) (by kernel_rfl) (by simp) ?_
    refine AllReadyH.turn (d := 13) (OP := .alloc 38) (T := 0) (v := .pointer (some ⟨W.heap.size, 0, none⟩)) (w' := W.alloc (.cells #[.int .i64 0, .bool false] 38)) rfl rfl rfl rfl (by rfl) (by go_simp <;> rfl) (hS _ (hb.trans ((za W).mono hb.size))) ?_ ?_
    · rw [put_comm (show 14 ≠ 13 by decide)]
      exact h301_ v5 v11 v17 W.heap.size B19 _ (hb.trans ((za W).mono hb.size)) (p5 _ _ _ g5 (za W)) (p11 _ _ _ g11 (za W)) (p17 _ _ _ g17 (za W)) (heap_alloc_new W _) (zr _ _ _ _ r19 (za W)) hb.size l19 (fun e => by have := zl _ _ _ r19; omega)
    refine AllReadyH.turn (d := 15) (OP := .alloc 38) (T := 0) (v := .pointer (some ⟨W.heap.size, 0, none⟩)) (w' := W.alloc (.cells #[.int .i64 0, .bool false] 38)) rfl rfl rfl rfl (by rfl) (by go_simp <;> rfl) (hS _ (hb.trans ((za W).mono hb.size))) ?_ ?_
    · exact h312_ v5 v11 v17 B19 W.heap.size _ (hb.trans ((za W).mono hb.size)) (p5 _ _ _ g5 (za W)) (p11 _ _ _ g11 (za W)) (p17 _ _ _ g17 (za W)) (zr _ _ _ _ r19 (za W)) (heap_alloc_new W _) l19 hb.size (fun e => by have := zl _ _ _ r19; omega)
    exact AllReadyH.nil
  have h32_ : ∀ (v5 : Value) (v11 : Value) (v17 : Value) (B20 : Nat) (W : World), Below w0.heap.size w0 W → C5 v5 W → C11 v11 W → C17 v17 W → W.heap[B20]? = some (.cells #[.int .i64 0, .bool false] 38) → w0.heap.size ≤ B20 → wpAnyH Try.prog .any ops_regE Q S 5 #[true, true, true, true, true, true, true, true, true, true, true, true, true, true, true, true, true, true, false, false, true, false, false, false] ((((a.put (some 65) v5).put (some 71) v11).put (some 77) v17).put (some 15) (.pointer (some ⟨B20, 0, none⟩))) W := fun v5 v11 v17 B20 W hb g5 g11 g17 r20 l20 => by
    refine wpAnyH_ready (rs := [18, 19]) (by kernel_rfl) (by simp) ?_
    refine AllReadyH.turn (d := 13) (OP := .alloc 38) (T := 0) (v := .pointer (some ⟨W.heap.size, 0, none⟩)) (w' := W.alloc (.cells #[.int .i64 0, .bool false] 38)) rfl rfl rfl rfl (by rfl) (by go_simp <;> rfl) (hS _ (hb.trans ((za W).mono hb.size))) ?_ ?_
    · rw [put_comm (show 15 ≠ 13 by decide)]
      exact h302_ v5 v11 v17 W.heap.size B20 _ (hb.trans ((za W).mono hb.size)) (p5 _ _ _ g5 (za W)) (p11 _ _ _ g11 (za W)) (p17 _ _ _ g17 (za W)) (heap_alloc_new W _) (zr _ _ _ _ r20 (za W)) hb.size l20 (fun e => by have := zl _ _ _ r20; omega)
    refine AllReadyH.turn (d := 14) (OP := .alloc 38) (T := 0) (v := .pointer (some ⟨W.heap.size, 0, none⟩)) (w' := W.alloc (.cells #[.int .i64 0, .bool false] 38)) rfl rfl rfl rfl (by rfl) (by go_simp <;> rfl) (hS _ (hb.trans ((za W).mono hb.size))) ?_ ?_
    · rw [put_comm (show 15 ≠ 14 by decide)]
      exact h312_ v5 v11 v17 W.heap.size B20 _ (hb.trans ((za W).mono hb.size)) (p5 _ _ _ g5 (za W)) (p11 _ _ _ g11 (za W)) (p17 _ _ _ g17 (za W)) (heap_alloc_new W _) (zr _ _ _ _ r20 (za W)) hb.size l20 (fun e => by have := zl _ _ _ r20; omega)
    exact AllReadyH.nil
  have h201_ : ∀ (v5 : Value) (v11 : Value) (B18 : Nat) (B19 : Nat) (W : World), Below w0.heap.size w0 W → C5 v5 W → C11 v11 W → W.heap[B18]? = some (.cells #[.int .i64 0, .bool false] 38) → W.heap[B19]? = some (.cells #[.int .i64 0, .bool false] 38) → w0.heap.size ≤ B18 → w0.heap.size ≤ B19 → B18 ≠ B19 → wpAnyH Try.prog .any ops_regE Q S 5 #[true, true, true, true, true, true, true, true, true, true, true, true, true, true, true, true, true, false, true, true, false, false, false, false] ((((a.put (some 65) v5).put (some 71) v11).put (some 13) (.pointer (some ⟨B18, 0, none⟩))).put (some 14) (.pointer (some ⟨B19, 0, none⟩))) W := fun v5 v11 B18 B19 W hb g5 g11 r18 r19 l18 l19 n18_19 => by
    refine wpAnyH_ready (rs := [17, 20]) (by kernel_rfl) (by simp) ?_
    refine AllReadyH.call (d := 77) (f := 12) (args := #[x17_0, x17_1]) (OP := .call { callee := .value (.func 12), args := #[.tmp 72, .tmp 76], argTypes := #[29, 9] }) (T := 38) rfl rfl rfl rfl (by rfl) (by have h0 := e17_0; have h1 := e17_1; simp [Act.eval, go_sem] at h0 h1; simp [execOp, resolve, invoke, go_sem, h0, h1]) ?_ ?_
    · refine (c17 W hb).mono ?_
      rintro e w' ⟨v17, rfl, g17, b'⟩
      have hb' := hb.trans (b'.mono hb.size)
      refine ⟨_, rfl, hS _ hb', ?_⟩
      rw [put_comm (show 14 ≠ 77 by decide), put_comm (show 13 ≠ 77 by decide)]
      exact h301_ v5 v11 v17 B18 B19 w' hb' (p5 _ _ _ g5 b') (p11 _ _ _ g11 b') g17 (zr _ _ _ _ r18 b') (zr _ _ _ _ r19 b') l18 l19 n18_19
    refine AllReadyH.turn (d := 15) (OP := .alloc 38) (T := 0) (v := .pointer (some ⟨W.heap.size, 0, none⟩)) (w' := W.alloc (.cells #[.int .i64 0, .bool false] 38)) rfl rfl rfl rfl (by rfl) (by go_simp <;> rfl) (hS _ (hb.trans ((za W).mono hb.size))) ?_ ?_
    · exact h2012_ v5 v11 B18 B19 W.heap.size _ (hb.trans ((za W).mono hb.size)) (p5 _ _ _ g5 (za W)) (p11 _ _ _ g11 (za W)) (zr _ _ _ _ r18 (za W)) (zr _ _ _ _ r19 (za W)) (heap_alloc_new W _) l18 l19 hb.size n18_19 (fun e => by have := zl _ _ _ r18; omega) (fun e => by have := zl _ _ _ r19; omega)
    exact AllReadyH.nil
  have h202_ : ∀ (v5 : Value) (v11 : Value) (B18 : Nat) (B20 : Nat) (W : World), Below w0.heap.size w0 W → C5 v5 W → C11 v11 W → W.heap[B18]? = some (.cells #[.int .i64 0, .bool false] 38) → W.heap[B20]? = some (.cells #[.int .i64 0, .bool false] 38) → w0.heap.size ≤ B18 → w0.heap.size ≤ B20 → B18 ≠ B20 → wpAnyH Try.prog .any ops_regE Q S 5 #[true, true, true, true, true, true, true, true, true, true, true, true, true, true, true, true, true, false, true, false, true, false, false, false] ((((a.put (some 65) v5).put (some 71) v11).put (some 13) (.pointer (some ⟨B18, 0, none⟩))).put (some 15) (.pointer (some ⟨B20, 0, none⟩))) W := fun v5 v11 B18 B20 W hb g5 g11 r18 r20 l18 l20 n18_20 => by
    refine wpAnyH_ready (rs := [17, 19]) (by kernel_rfl) (by simp) ?_
    refine AllReadyH.call (d := 77) (f := 12) (args := #[x17_0, x17_1]) (OP := .call { callee := .value (.func 12), args := #[.tmp 72, .tmp 76], argTypes := #[29, 9] }) (T := 38) rfl rfl rfl rfl (by rfl) (by have h0 := e17_0; have h1 := e17_1; simp [Act.eval, go_sem] at h0 h1; simp [execOp, resolve, invoke, go_sem, h0, h1]) ?_ ?_
    · refine (c17 W hb).mono ?_
      rintro e w' ⟨v17, rfl, g17, b'⟩
      have hb' := hb.trans (b'.mono hb.size)
      refine ⟨_, rfl, hS _ hb', ?_⟩
      rw [put_comm (show 15 ≠ 77 by decide), put_comm (show 13 ≠ 77 by decide)]
      exact h302_ v5 v11 v17 B18 B20 w' hb' (p5 _ _ _ g5 b') (p11 _ _ _ g11 b') g17 (zr _ _ _ _ r18 b') (zr _ _ _ _ r20 b') l18 l20 n18_20
    refine AllReadyH.turn (d := 14) (OP := .alloc 38) (T := 0) (v := .pointer (some ⟨W.heap.size, 0, none⟩)) (w' := W.alloc (.cells #[.int .i64 0, .bool false] 38)) rfl rfl rfl rfl (by rfl) (by go_simp <;> rfl) (hS _ (hb.trans ((za W).mono hb.size))) ?_ ?_
    · rw [put_comm (show 15 ≠ 14 by decide)]
      exact h2012_ v5 v11 B18 W.heap.size B20 _ (hb.trans ((za W).mono hb.size)) (p5 _ _ _ g5 (za W)) (p11 _ _ _ g11 (za W)) (zr _ _ _ _ r18 (za W)) (heap_alloc_new W _) (zr _ _ _ _ r20 (za W)) l18 hb.size l20 (fun e => by have := zl _ _ _ r18; omega) n18_20 (fun e => by have := zl _ _ _ r20; omega)
    exact AllReadyH.nil
  have h212_ : ∀ (v5 : Value) (v11 : Value) (B19 : Nat) (B20 : Nat) (W : World), Below w0.heap.size w0 W → C5 v5 W → C11 v11 W → W.heap[B19]? = some (.cells #[.int .i64 0, .bool false] 38) → W.heap[B20]? = some (.cells #[.int .i64 0, .bool false] 38) → w0.heap.size ≤ B19 → w0.heap.size ≤ B20 → B19 ≠ B20 → wpAnyH Try.prog .any ops_regE Q S 5 #[true, true, true, true, true, true, true, true, true, true, true, true, true, true, true, true, true, false, false, true, true, false, false, false] ((((a.put (some 65) v5).put (some 71) v11).put (some 14) (.pointer (some ⟨B19, 0, none⟩))).put (some 15) (.pointer (some ⟨B20, 0, none⟩))) W := fun v5 v11 B19 B20 W hb g5 g11 r19 r20 l19 l20 n19_20 => by
    refine wpAnyH_ready (rs := [17, 18]) (by kernel_rfl) (by simp) ?_
    refine AllReadyH.call (d := 77) (f := 12) (args := #[x17_0, x17_1]) (OP := .call { callee := .value (.func 12), args := #[.tmp 72, .tmp 76], argTypes := #[29, 9] }) (T := 38) rfl rfl rfl rfl (by rfl) (by have h0 := e17_0; have h1 := e17_1; simp [Act.eval, go_sem] at h0 h1; simp [execOp, resolve, invoke, go_sem, h0, h1]) ?_ ?_
    · refine (c17 W hb).mono ?_
      rintro e w' ⟨v17, rfl, g17, b'⟩
      have hb' := hb.trans (b'.mono hb.size)
      refine ⟨_, rfl, hS _ hb', ?_⟩
      rw [put_comm (show 15 ≠ 77 by decide), put_comm (show 14 ≠ 77 by decide)]
      exact h312_ v5 v11 v17 B19 B20 w' hb' (p5 _ _ _ g5 b') (p11 _ _ _ g11 b') g17 (zr _ _ _ _ r19 b') (zr _ _ _ _ r20 b') l19 l20 n19_20
    refine AllReadyH.turn (d := 13) (OP := .alloc 38) (T := 0) (v := .pointer (some ⟨W.heap.size, 0, none⟩)) (w' := W.alloc (.cells #[.int .i64 0, .bool false] 38)) rfl rfl rfl rfl (by rfl) (by go_simp <;> rfl) (hS _ (hb.trans ((za W).mono hb.size))) ?_ ?_
    · rw [put_comm (show 15 ≠ 13 by decide), put_comm (show 14 ≠ 13 by decide)]
      exact h2012_ v5 v11 W.heap.size B19 B20 _ (hb.trans ((za W).mono hb.size)) (p5 _ _ _ g5 (za W)) (p11 _ _ _ g11 (za W)) (heap_alloc_new W _) (zr _ _ _ _ r19 (za W)) (zr _ _ _ _ r20 (za W)) hb.size l19 l20 (fun e => by have := zl _ _ _ r19; omega) (fun e => by have := zl _ _ _ r20; omega) n19_20
    exact AllReadyH.nil
  have h1012_ : ∀ (v5 : Value) (B18 : Nat) (B19 : Nat) (B20 : Nat) (W : World), Below w0.heap.size w0 W → C5 v5 W → W.heap[B18]? = some (.cells #[.int .i64 0, .bool false] 38) → W.heap[B19]? = some (.cells #[.int .i64 0, .bool false] 38) → W.heap[B20]? = some (.cells #[.int .i64 0, .bool false] 38) → w0.heap.size ≤ B18 → w0.heap.size ≤ B19 → w0.heap.size ≤ B20 → B18 ≠ B19 → B18 ≠ B20 → B19 ≠ B20 → wpAnyH Try.prog .any ops_regE Q S 5 #[true, true, true, true, true, true, true, true, true, true, true, false, true, true, true, true, true, false, true, true, true, false, false, false] ((((a.put (some 65) v5).put (some 13) (.pointer (some ⟨B18, 0, none⟩))).put (some 14) (.pointer (some ⟨B19, 0, none⟩))).put (some 15) (.pointer (some ⟨B20, 0, none⟩))) W := fun v5 B18 B19 B20 W hb g5 r18 r19 r20 l18 l19 l20 n18_19 n18_20 n19_20 => by
    refine wpAnyH_ready (rs := [11]) (by kernel_rfl) (by simp) ?_
    refine AllReadyH.call (d := 71) (f := 12) (args := #[x11_0, x11_1]) (OP := .call { callee := .value (.func 12), args := #[.tmp 66, .tmp 70], argTypes := #[29, 9] }) (T := 38) rfl rfl rfl rfl (by rfl) (by have h0 := e11_0; have h1 := e11_1; simp [Act.eval, go_sem] at h0 h1; simp [execOp, resolve, invoke, go_sem, h0, h1]) ?_ ?_
    · refine (c11 W hb).mono ?_
      rintro e w' ⟨v11, rfl, g11, b'⟩
      have hb' := hb.trans (b'.mono hb.size)
      refine ⟨_, rfl, hS _ hb', ?_⟩
      rw [put_comm (show 15 ≠ 71 by decide), put_comm (show 14 ≠ 71 by decide), put_comm (show 13 ≠ 71 by decide)]
      exact h2012_ v5 v11 B18 B19 B20 w' hb' (p5 _ _ _ g5 b') g11 (zr _ _ _ _ r18 b') (zr _ _ _ _ r19 b') (zr _ _ _ _ r20 b') l18 l19 l20 n18_19 n18_20 n19_20
    exact AllReadyH.nil
  have h3_ : ∀ (v5 : Value) (v11 : Value) (v17 : Value) (W : World), Below w0.heap.size w0 W → C5 v5 W → C11 v11 W → C17 v17 W → wpAnyH Try.prog .any ops_regE Q S 6 #[true, true, true, true, true, true, true, true, true, true, true, true, true, true, true, true, true, true, false, false, false, false, false, false] (((a.put (some 65) v5).put (some 71) v11).put (some 77) v17) W := fun v5 v11 v17 W hb g5 g11 g17 => by
    refine wpAnyH_ready (rs := [18, 19, 20]) (by kernel_rfl) (by simp) ?_
    refine AllReadyH.turn (d := 13) (OP := .alloc 38) (T := 0) (v := .pointer (some ⟨W.heap.size, 0, none⟩)) (w' := W.alloc (.cells #[.int .i64 0, .bool false] 38)) rfl rfl rfl rfl (by rfl) (by go_simp <;> rfl) (hS _ (hb.trans ((za W).mono hb.size))) ?_ ?_
    · exact h30_ v5 v11 v17 W.heap.size _ (hb.trans ((za W).mono hb.size)) (p5 _ _ _ g5 (za W)) (p11 _ _ _ g11 (za W)) (p17 _ _ _ g17 (za W)) (heap_alloc_new W _) hb.size
    refine AllReadyH.turn (d := 14) (OP := .alloc 38) (T := 0) (v := .pointer (some ⟨W.heap.size, 0, none⟩)) (w' := W.alloc (.cells #[.int .i64 0, .bool false] 38)) rfl rfl rfl rfl (by rfl) (by go_simp <;> rfl) (hS _ (hb.trans ((za W).mono hb.size))) ?_ ?_
    · exact h31_ v5 v11 v17 W.heap.size _ (hb.trans ((za W).mono hb.size)) (p5 _ _ _ g5 (za W)) (p11 _ _ _ g11 (za W)) (p17 _ _ _ g17 (za W)) (heap_alloc_new W _) hb.size
    refine AllReadyH.turn (d := 15) (OP := .alloc 38) (T := 0) (v := .pointer (some ⟨W.heap.size, 0, none⟩)) (w' := W.alloc (.cells #[.int .i64 0, .bool false] 38)) rfl rfl rfl rfl (by rfl) (by go_simp <;> rfl) (hS _ (hb.trans ((za W).mono hb.size))) ?_ ?_
    · exact h32_ v5 v11 v17 W.heap.size _ (hb.trans ((za W).mono hb.size)) (p5 _ _ _ g5 (za W)) (p11 _ _ _ g11 (za W)) (p17 _ _ _ g17 (za W)) (heap_alloc_new W _) hb.size
    exact AllReadyH.nil
  have h20_ : ∀ (v5 : Value) (v11 : Value) (B18 : Nat) (W : World), Below w0.heap.size w0 W → C5 v5 W → C11 v11 W → W.heap[B18]? = some (.cells #[.int .i64 0, .bool false] 38) → w0.heap.size ≤ B18 → wpAnyH Try.prog .any ops_regE Q S 6 #[true, true, true, true, true, true, true, true, true, true, true, true, true, true, true, true, true, false, true, false, false, false, false, false] (((a.put (some 65) v5).put (some 71) v11).put (some 13) (.pointer (some ⟨B18, 0, none⟩))) W := fun v5 v11 B18 W hb g5 g11 r18 l18 => by
    refine wpAnyH_ready (rs := [17, 19, 20]) (by kernel_rfl) (by simp) ?_
    refine AllReadyH.call (d := 77) (f := 12) (args := #[x17_0, x17_1]) (OP := .call { callee := .value (.func 12), args := #[.tmp 72, .tmp 76], argTypes := #[29, 9] }) (T := 38) rfl rfl rfl rfl (by rfl) (by have h0 := e17_0; have h1 := e17_1; simp [Act.eval, go_sem] at h0 h1; simp [execOp, resolve, invoke, go_sem, h0, h1]) ?_ ?_
    · refine (c17 W hb).mono ?_
      rintro e w' ⟨v17, rfl, g17, b'⟩
      have hb' := hb.trans (b'.mono hb.size)
      refine ⟨_, rfl, hS _ hb', ?_⟩
      rw [put_comm (show 13 ≠ 77 by decide)]
      exact h30_ v5 v11 v17 B18 w' hb' (p5 _ _ _ g5 b') (p11 _ _ _ g11 b') g17 (zr _ _ _ _ r18 b') l18
    refine AllReadyH.turn (d := 14) (OP := .alloc 38) (T := 0) (v := .pointer (some ⟨W.heap.size, 0, none⟩)) (w' := W.alloc (.cells #[.int .i64 0, .bool false] 38)) rfl rfl rfl rfl (by rfl) (by go_simp <;> rfl) (hS _ (hb.trans ((za W).mono hb.size))) ?_ ?_
    · exact h201_ v5 v11 B18 W.heap.size _ (hb.trans ((za W).mono hb.size)) (p5 _ _ _ g5 (za W)) (p11 _ _ _ g11 (za W)) (zr _ _ _ _ r18 (za W)) (heap_alloc_new W _) l18 hb.size (fun e => by have := zl _ _ _ r18; omega)
    refine AllReadyH.turn (d := 15) (OP := .alloc 38) (T := 0) (v := .pointer (some ⟨W.heap.size, 0, none⟩)) (w' := W.alloc (.cells #[.int .i64 0, .bool false] 38)) rfl rfl rfl rfl (by rfl) (by go_simp <;> rfl) (hS _ (hb.trans ((za W).mono hb.size))) ?_ ?_
    · exact h202_ v5 v11 B18 W.heap.size _ (hb.trans ((za W).mono hb.size)) (p5 _ _ _ g5 (za W)) (p11 _ _ _ g11 (za W)) (zr _ _ _ _ r18 (za W)) (heap_alloc_new W _) l18 hb.size (fun e => by have := zl _ _ _ r18; omega)
    exact AllReadyH.nil
  have h21_ : ∀ (v5 : Value) (v11 : Value) (B19 : Nat) (W : World), Below w0.heap.size w0 W → C5 v5 W → C11 v11 W → W.heap[B19]? = some (.cells #[.int .i64 0, .bool false] 38) → w0.heap.size ≤ B19 → wpAnyH Try.prog .any ops_regE Q S 6 #[true, true, true, true, true, true, true, true, true, true, true, true, true, true, true, true, true, false, false, true, false, false, false, false] (((a.put (some 65) v5).put (some 71) v11).put (some 14) (.pointer (some ⟨B19, 0, none⟩))) W := fun v5 v11 B19 W hb g5 g11 r19 l19 => by
    refine wpAnyH_ready (rs := [17, 18, 20]) (by kernel_rfl) (by simp) ?_
    refine AllReadyH.call (d := 77) (f := 12) (args := #[x17_0, x17_1]) (OP := .call { callee := .value (.func 12), args := #[.tmp 72, .tmp 76], argTypes := #[29, 9] }) (T := 38) rfl rfl rfl rfl (by rfl) (by have h0 := e17_0; have h1 := e17_1; simp [Act.eval, go_sem] at h0 h1; simp [execOp, resolve, invoke, go_sem, h0, h1]) ?_ ?_
    · refine (c17 W hb).mono ?_
      rintro e w' ⟨v17, rfl, g17, b'⟩
      have hb' := hb.trans (b'.mono hb.size)
      refine ⟨_, rfl, hS _ hb', ?_⟩
      rw [put_comm (show 14 ≠ 77 by decide)]
      exact h31_ v5 v11 v17 B19 w' hb' (p5 _ _ _ g5 b') (p11 _ _ _ g11 b') g17 (zr _ _ _ _ r19 b') l19
    refine AllReadyH.turn (d := 13) (OP := .alloc 38) (T := 0) (v := .pointer (some ⟨W.heap.size, 0, none⟩)) (w' := W.alloc (.cells #[.int .i64 0, .bool false] 38)) rfl rfl rfl rfl (by rfl) (by go_simp <;> rfl) (hS _ (hb.trans ((za W).mono hb.size))) ?_ ?_
    · rw [put_comm (show 14 ≠ 13 by decide)]
      exact h201_ v5 v11 W.heap.size B19 _ (hb.trans ((za W).mono hb.size)) (p5 _ _ _ g5 (za W)) (p11 _ _ _ g11 (za W)) (heap_alloc_new W _) (zr _ _ _ _ r19 (za W)) hb.size l19 (fun e => by have := zl _ _ _ r19; omega)
    refine AllReadyH.turn (d := 15) (OP := .alloc 38) (T := 0) (v := .pointer (some ⟨W.heap.size, 0, none⟩)) (w' := W.alloc (.cells #[.int .i64 0, .bool false] 38)) rfl rfl rfl rfl (by rfl) (by go_simp <;> rfl) (hS _ (hb.trans ((za W).mono hb.size))) ?_ ?_
    · exact h212_ v5 v11 B19 W.heap.size _ (hb.trans ((za W).mono hb.size)) (p5 _ _ _ g5 (za W)) (p11 _ _ _ g11 (za W)) (zr _ _ _ _ r19 (za W)) (heap_alloc_new W _) l19 hb.size (fun e => by have := zl _ _ _ r19; omega)
    exact AllReadyH.nil
  have h22_ : ∀ (v5 : Value) (v11 : Value) (B20 : Nat) (W : World), Below w0.heap.size w0 W → C5 v5 W → C11 v11 W → W.heap[B20]? = some (.cells #[.int .i64 0, .bool false] 38) → w0.heap.size ≤ B20 → wpAnyH Try.prog .any ops_regE Q S 6 #[true, true, true, true, true, true, true, true, true, true, true, true, true, true, true, true, true, false, false, false, true, false, false, false] (((a.put (some 65) v5).put (some 71) v11).put (some 15) (.pointer (some ⟨B20, 0, none⟩))) W := fun v5 v11 B20 W hb g5 g11 r20 l20 => by
    refine wpAnyH_ready (rs := [17, 18, 19]) (by kernel_rfl) (by simp) ?_
    refine AllReadyH.call (d := 77) (f := 12) (args := #[x17_0, x17_1]) (OP := .call { callee := .value (.func 12), args := #[.tmp 72, .tmp 76], argTypes := #[29, 9] }) (T := 38) rfl rfl rfl rfl (by rfl) (by have h0 := e17_0; have h1 := e17_1; simp [Act.eval, go_sem] at h0 h1; simp [execOp, resolve, invoke, go_sem, h0, h1]) ?_ ?_
    · refine (c17 W hb).mono ?_
      rintro e w' ⟨v17, rfl, g17, b'⟩
      have hb' := hb.trans (b'.mono hb.size)
      refine ⟨_, rfl, hS _ hb', ?_⟩
      rw [put_comm (show 15 ≠ 77 by decide)]
      exact h32_ v5 v11 v17 B20 w' hb' (p5 _ _ _ g5 b') (p11 _ _ _ g11 b') g17 (zr _ _ _ _ r20 b') l20
    refine AllReadyH.turn (d := 13) (OP := .alloc 38) (T := 0) (v := .pointer (some ⟨W.heap.size, 0, none⟩)) (w' := W.alloc (.cells #[.int .i64 0, .bool false] 38)) rfl rfl rfl rfl (by rfl) (by go_simp <;> rfl) (hS _ (hb.trans ((za W).mono hb.size))) ?_ ?_
    · rw [put_comm (show 15 ≠ 13 by decide)]
      exact h202_ v5 v11 W.heap.size B20 _ (hb.trans ((za W).mono hb.size)) (p5 _ _ _ g5 (za W)) (p11 _ _ _ g11 (za W)) (heap_alloc_new W _) (zr _ _ _ _ r20 (za W)) hb.size l20 (fun e => by have := zl _ _ _ r20; omega)
    refine AllReadyH.turn (d := 14) (OP := .alloc 38) (T := 0) (v := .pointer (some ⟨W.heap.size, 0, none⟩)) (w' := W.alloc (.cells #[.int .i64 0, .bool false] 38)) rfl rfl rfl rfl (by rfl) (by go_simp <;> rfl) (hS _ (hb.trans ((za W).mono hb.size))) ?_ ?_
    · rw [put_comm (show 15 ≠ 14 by decide)]
      exact h212_ v5 v11 W.heap.size B20 _ (hb.trans ((za W).mono hb.size)) (p5 _ _ _ g5 (za W)) (p11 _ _ _ g11 (za W)) (heap_alloc_new W _) (zr _ _ _ _ r20 (za W)) hb.size l20 (fun e => by have := zl _ _ _ r20; omega)
    exact AllReadyH.nil
  have h101_ : ∀ (v5 : Value) (B18 : Nat) (B19 : Nat) (W : World), Below w0.heap.size w0 W → C5 v5 W → W.heap[B18]? = some (.cells #[.int .i64 0, .bool false] 38) → W.heap[B19]? = some (.cells #[.int .i64 0, .bool false] 38) → w0.heap.size ≤ B18 → w0.heap.size ≤ B19 → B18 ≠ B19 → wpAnyH Try.prog .any ops_regE Q S 6 #[true, true, true, true, true, true, true, true, true, true, true, false, true, true, true, true, true, false, true, true, false, false, false, false] (((a.put (some 65) v5).put (some 13) (.pointer (some ⟨B18, 0, none⟩))).put (some 14) (.pointer (some ⟨B19, 0, none⟩))) W := fun v5 B18 B19 W hb g5 r18 r19 l18 l19 n18_19 => by
    refine wpAnyH_ready (rs := [11, 20]) (by kernel_rfl) (by simp) ?_
    refine AllReadyH.call (d := 71) (f := 12) (args := #[x11_0, x11_1]) (OP := .call { callee := .value (.func 12), args := #[.tmp 66, .tmp 70], argTypes := #[29, 9] }) (T := 38) rfl rfl rfl rfl (by rfl) (by have h0 := e11_0; have h1 := e11_1; simp [Act.eval, go_sem] at h0 h1; simp [execOp, resolve, invoke, go_sem, h0, h1]) ?_ ?_
    · refine (c11 W hb).mono ?_
      rintro e w' ⟨v11, rfl, g11, b'⟩
      have hb' := hb.trans (b'.mono hb.size)
      refine ⟨_, rfl, hS _ hb', ?_⟩
      rw [put_comm (show 14 ≠ 71 by decide), put_comm (show 13 ≠ 71 by decide)]
      exact h201_ v5 v11 B18 B19 w' hb' (p5 _ _ _ g5 b') g11 (zr _ _ _ _ r18 b') (zr _ _ _ _ r19 b') l18 l19 n18_19
    refine AllReadyH.turn (d := 15) (OP := .alloc 38) (T := 0) (v := .pointer (some ⟨W.heap.size, 0, none⟩)) (w' := W.alloc (.cells #[.int .i64 0, .bool false] 38)) rfl rfl rfl rfl (by rfl) (by go_simp <;> rfl) (hS _ (hb.trans ((za W).mono hb.size))) ?_ ?_
    · exact h1012_ v5 B18 B19 W.heap.size _ (hb.trans ((za W).mono hb.size)) (p5 _ _ _ g5 (za W)) (zr _ _ _ _ r18 (za W)) (zr _ _ _ _ r19 (za W)) (heap_alloc_new W _) l18 l19 hb.size n18_19 (fun e => by have := zl _ _ _ r18; omega) (fun e => by have := zl _ _ _ r19; omega)
    exact AllReadyH.nil
  have h102_ : ∀ (v5 : Value) (B18 : Nat) (B20 : Nat) (W : World), Below w0.heap.size w0 W → C5 v5 W → W.heap[B18]? = some (.cells #[.int .i64 0, .bool false] 38) → W.heap[B20]? = some (.cells #[.int .i64 0, .bool false] 38) → w0.heap.size ≤ B18 → w0.heap.size ≤ B20 → B18 ≠ B20 → wpAnyH Try.prog .any ops_regE Q S 6 #[true, true, true, true, true, true, true, true, true, true, true, false, true, true, true, true, true, false, true, false, true, false, false, false] (((a.put (some 65) v5).put (some 13) (.pointer (some ⟨B18, 0, none⟩))).put (some 15) (.pointer (some ⟨B20, 0, none⟩))) W := fun v5 B18 B20 W hb g5 r18 r20 l18 l20 n18_20 => by
    refine wpAnyH_ready (rs := [11, 19]) (by kernel_rfl) (by simp) ?_
    refine AllReadyH.call (d := 71) (f := 12) (args := #[x11_0, x11_1]) (OP := .call { callee := .value (.func 12), args := #[.tmp 66, .tmp 70], argTypes := #[29, 9] }) (T := 38) rfl rfl rfl rfl (by rfl) (by have h0 := e11_0; have h1 := e11_1; simp [Act.eval, go_sem] at h0 h1; simp [execOp, resolve, invoke, go_sem, h0, h1]) ?_ ?_
    · refine (c11 W hb).mono ?_
      rintro e w' ⟨v11, rfl, g11, b'⟩
      have hb' := hb.trans (b'.mono hb.size)
      refine ⟨_, rfl, hS _ hb', ?_⟩
      rw [put_comm (show 15 ≠ 71 by decide), put_comm (show 13 ≠ 71 by decide)]
      exact h202_ v5 v11 B18 B20 w' hb' (p5 _ _ _ g5 b') g11 (zr _ _ _ _ r18 b') (zr _ _ _ _ r20 b') l18 l20 n18_20
    refine AllReadyH.turn (d := 14) (OP := .alloc 38) (T := 0) (v := .pointer (some ⟨W.heap.size, 0, none⟩)) (w' := W.alloc (.cells #[.int .i64 0, .bool false] 38)) rfl rfl rfl rfl (by rfl) (by go_simp <;> rfl) (hS _ (hb.trans ((za W).mono hb.size))) ?_ ?_
    · rw [put_comm (show 15 ≠ 14 by decide)]
      exact h1012_ v5 B18 W.heap.size B20 _ (hb.trans ((za W).mono hb.size)) (p5 _ _ _ g5 (za W)) (zr _ _ _ _ r18 (za W)) (heap_alloc_new W _) (zr _ _ _ _ r20 (za W)) l18 hb.size l20 (fun e => by have := zl _ _ _ r18; omega) n18_20 (fun e => by have := zl _ _ _ r20; omega)
    exact AllReadyH.nil
  have h112_ : ∀ (v5 : Value) (B19 : Nat) (B20 : Nat) (W : World), Below w0.heap.size w0 W → C5 v5 W → W.heap[B19]? = some (.cells #[.int .i64 0, .bool false] 38) → W.heap[B20]? = some (.cells #[.int .i64 0, .bool false] 38) → w0.heap.size ≤ B19 → w0.heap.size ≤ B20 → B19 ≠ B20 → wpAnyH Try.prog .any ops_regE Q S 6 #[true, true, true, true, true, true, true, true, true, true, true, false, true, true, true, true, true, false, false, true, true, false, false, false] (((a.put (some 65) v5).put (some 14) (.pointer (some ⟨B19, 0, none⟩))).put (some 15) (.pointer (some ⟨B20, 0, none⟩))) W := fun v5 B19 B20 W hb g5 r19 r20 l19 l20 n19_20 => by
    refine wpAnyH_ready (rs := [11, 18]) (by kernel_rfl) (by simp) ?_
    refine AllReadyH.call (d := 71) (f := 12) (args := #[x11_0, x11_1]) (OP := .call { callee := .value (.func 12), args := #[.tmp 66, .tmp 70], argTypes := #[29, 9] }) (T := 38) rfl rfl rfl rfl (by rfl) (by have h0 := e11_0; have h1 := e11_1; simp [Act.eval, go_sem] at h0 h1; simp [execOp, resolve, invoke, go_sem, h0, h1]) ?_ ?_
    · refine (c11 W hb).mono ?_
      rintro e w' ⟨v11, rfl, g11, b'⟩
      have hb' := hb.trans (b'.mono hb.size)
      refine ⟨_, rfl, hS _ hb', ?_⟩
      rw [put_comm (show 15 ≠ 71 by decide), put_comm (show 14 ≠ 71 by decide)]
      exact h212_ v5 v11 B19 B20 w' hb' (p5 _ _ _ g5 b') g11 (zr _ _ _ _ r19 b') (zr _ _ _ _ r20 b') l19 l20 n19_20
    refine AllReadyH.turn (d := 13) (OP := .alloc 38) (T := 0) (v := .pointer (some ⟨W.heap.size, 0, none⟩)) (w' := W.alloc (.cells #[.int .i64 0, .bool false] 38)) rfl rfl rfl rfl (by rfl) (by go_simp <;> rfl) (hS _ (hb.trans ((za W).mono hb.size))) ?_ ?_
    · rw [put_comm (show 15 ≠ 13 by decide), put_comm (show 14 ≠ 13 by decide)]
      exact h1012_ v5 W.heap.size B19 B20 _ (hb.trans ((za W).mono hb.size)) (p5 _ _ _ g5 (za W)) (heap_alloc_new W _) (zr _ _ _ _ r19 (za W)) (zr _ _ _ _ r20 (za W)) hb.size l19 l20 (fun e => by have := zl _ _ _ r19; omega) (fun e => by have := zl _ _ _ r20; omega) n19_20
    exact AllReadyH.nil
  have h0012_ : ∀ (B18 : Nat) (B19 : Nat) (B20 : Nat) (W : World), Below w0.heap.size w0 W → W.heap[B18]? = some (.cells #[.int .i64 0, .bool false] 38) → W.heap[B19]? = some (.cells #[.int .i64 0, .bool false] 38) → W.heap[B20]? = some (.cells #[.int .i64 0, .bool false] 38) → w0.heap.size ≤ B18 → w0.heap.size ≤ B19 → w0.heap.size ≤ B20 → B18 ≠ B19 → B18 ≠ B20 → B19 ≠ B20 → wpAnyH Try.prog .any ops_regE Q S 6 #[true, true, true, true, true, false, true, true, true, true, true, false, true, true, true, true, true, false, true, true, true, false, false, false] (((a.put (some 13) (.pointer (some ⟨B18, 0, none⟩))).put (some 14) (.pointer (some ⟨B19, 0, none⟩))).put (some 15) (.pointer (some ⟨B20, 0, none⟩))) W := fun B18 B19 B20 W hb r18 r19 r20 l18 l19 l20 n18_19 n18_20 n19_20 => by
    refine wpAnyH_ready (rs := [5]) (by kernel_rfl) (by simp) ?_
    refine AllReadyH.call (d := 65) (f := 12) (args := #[x5_0, x5_1]) (OP := .call { callee := .value (.func 12), args := #[.tmp 60, .tmp 64], argTypes := #[29, 9] }) (T := 38) rfl rfl rfl rfl (by rfl) (by have h0 := e5_0; have h1 := e5_1; simp [Act.eval, go_sem] at h0 h1; simp [execOp, resolve, invoke, go_sem, h0, h1]) ?_ ?_
    · refine (c5 W hb).mono ?_
      rintro e w' ⟨v5, rfl, g5, b'⟩
      have hb' := hb.trans (b'.mono hb.size)
      refine ⟨_, rfl, hS _ hb', ?_⟩
      rw [put_comm (show 15 ≠ 65 by decide), put_comm (show 14 ≠ 65 by decide), put_comm (show 13 ≠ 65 by decide)]
      exact h1012_ v5 B18 B19 B20 w' hb' g5 (zr _ _ _ _ r18 b') (zr _ _ _ _ r19 b') (zr _ _ _ _ r20 b') l18 l19 l20 n18_19 n18_20 n19_20
    exact AllReadyH.nil
  have h2_ : ∀ (v5 : Value) (v11 : Value) (W : World), Below w0.heap.size w0 W → C5 v5 W → C11 v11 W → wpAnyH Try.prog .any ops_regE Q S 7 #[true, true, true, true, true, true, true, true, true, true, true, true, true, true, true, true, true, false, false, false, false, false, false, false] ((a.put (some 65) v5).put (some 71) v11) W := fun v5 v11 W hb g5 g11 => by
    refine wpAnyH_ready (rs := [17, 18, 19, 20]) (by kernel_rfl) (by simp) ?_
    refine AllReadyH.call (d := 77) (f := 12) (args := #[x17_0, x17_1]) (OP := .call { callee := .value (.func 12), args := #[.tmp 72, .tmp 76], argTypes := #[29, 9] }) (T := 38) rfl rfl rfl rfl (by rfl) (by have h0 := e17_0; have h1 := e17_1; simp [Act.eval, go_sem] at h0 h1; simp [execOp, resolve, invoke, go_sem, h0, h1]) ?_ ?_
    · refine (c17 W hb).mono ?_
      rintro e w' ⟨v17, rfl, g17, b'⟩
      have hb' := hb.trans (b'.mono hb.size)
      refine ⟨_, rfl, hS _ hb', ?_⟩
      exact h3_ v5 v11 v17 w' hb' (p5 _ _ _ g5 b') (p11 _ _ _ g11 b') g17
    refine AllReadyH.turn (d := 13) (OP := .alloc 38) (T := 0) (v := .pointer (some ⟨W.heap.size, 0, none⟩)) (w' := W.alloc (.cells #[.int .i64 0, .bool false] 38)) rfl rfl rfl rfl (by rfl) (by go_simp <;> rfl) (hS _ (hb.trans ((za W).mono hb.size))) ?_ ?_
    · exact h20_ v5 v11 W.heap.size _ (hb.trans ((za W).mono hb.size)) (p5 _ _ _ g5 (za W)) (p11 _ _ _ g11 (za W)) (heap_alloc_new W _) hb.size
    refine AllReadyH.turn (d := 14) (OP := .alloc 38) (T := 0) (v := .pointer (some ⟨W.heap.size, 0, none⟩)) (w' := W.alloc (.cells #[.int .i64 0, .bool false] 38)) rfl rfl rfl rfl (by rfl) (by go_simp <;> rfl) (hS _ (hb.trans ((za W).mono hb.size))) ?_ ?_
    · exact h21_ v5 v11 W.heap.size _ (hb.trans ((za W).mono hb.size)) (p5 _ _ _ g5 (za W)) (p11 _ _ _ g11 (za W)) (heap_alloc_new W _) hb.size
    refine AllReadyH.turn (d := 15) (OP := .alloc 38) (T := 0) (v := .pointer (some ⟨W.heap.size, 0, none⟩)) (w' := W.alloc (.cells #[.int .i64 0, .bool false] 38)) rfl rfl rfl rfl (by rfl) (by go_simp <;> rfl) (hS _ (hb.trans ((za W).mono hb.size))) ?_ ?_
    · exact h22_ v5 v11 W.heap.size _ (hb.trans ((za W).mono hb.size)) (p5 _ _ _ g5 (za W)) (p11 _ _ _ g11 (za W)) (heap_alloc_new W _) hb.size
    exact AllReadyH.nil
  have h10_ : ∀ (v5 : Value) (B18 : Nat) (W : World), Below w0.heap.size w0 W → C5 v5 W → W.heap[B18]? = some (.cells #[.int .i64 0, .bool false] 38) → w0.heap.size ≤ B18 → wpAnyH Try.prog .any ops_regE Q S 7 #[true, true, true, true, true, true, true, true, true, true, true, false, true, true, true, true, true, false, true, false, false, false, false, false] ((a.put (some 65) v5).put (some 13) (.pointer (some ⟨B18, 0, none⟩))) W := fun v5 B18 W hb g5 r18 l18 => by
    refine wpAnyH_ready (rs := [11, 19, 20]) (by kernel_rfl) (by simp) ?_
    refine AllReadyH.call (d := 71) (f := 12) (args := #[x11_0, x11_1]) (OP := .call { callee := .value (.func 12), args := #[.tmp 66, .tmp 70], argTypes := #[29, 9] }) (T := 38) rfl rfl rfl rfl (by rfl) (by have h0 := e11_0; have h1 := e11_1; simp [Act.eval, go_sem] at h0 h1; simp [execOp, resolve, invoke, go_sem, h0, h1]) ?_ ?_
    · refine (c11 W hb).mono ?_
      rintro e w' ⟨v11, rfl, g11, b'⟩
      have hb' := hb.trans (b'.mono hb.size)
      refine ⟨_, rfl, hS _ hb', ?_⟩
      rw [put_comm (show 13 ≠ 71 by decide)]
      exact h20_ v5 v11 B18 w' hb' (p5 _ _ _ g5 b') g11 (zr _ _ _ _ r18 b') l18
    refine AllReadyH.turn (d := 14) (OP := .alloc 38) (T := 0) (v := .pointer (some ⟨W.heap.size, 0, none⟩)) (w' := W.alloc (.cells #[.int .i64 0, .bool false] 38)) rfl rfl rfl rfl (by rfl) (by go_simp <;> rfl) (hS _ (hb.trans ((za W).mono hb.size))) ?_ ?_
    · exact h101_ v5 B18 W.heap.size _ (hb.trans ((za W).mono hb.size)) (p5 _ _ _ g5 (za W)) (zr _ _ _ _ r18 (za W)) (heap_alloc_new W _) l18 hb.size (fun e => by have := zl _ _ _ r18; omega)
    refine AllReadyH.turn (d := 15) (OP := .alloc 38) (T := 0) (v := .pointer (some ⟨W.heap.size, 0, none⟩)) (w' := W.alloc (.cells #[.int .i64 0, .bool false] 38)) rfl rfl rfl rfl (by rfl) (by go_simp <;> rfl) (hS _ (hb.trans ((za W).mono hb.size))) ?_ ?_
    · exact h102_ v5 B18 W.heap.size _ (hb.trans ((za W).mono hb.size)) (p5 _ _ _ g5 (za W)) (zr _ _ _ _ r18 (za W)) (heap_alloc_new W _) l18 hb.size (fun e => by have := zl _ _ _ r18; omega)
    exact AllReadyH.nil
  have h11_ : ∀ (v5 : Value) (B19 : Nat) (W : World), Below w0.heap.size w0 W → C5 v5 W → W.heap[B19]? = some (.cells #[.int .i64 0, .bool false] 38) → w0.heap.size ≤ B19 → wpAnyH Try.prog .any ops_regE Q S 7 #[true, true, true, true, true, true, true, true, true, true, true, false, true, true, true, true, true, false, false, true, false, false, false, false] ((a.put (some 65) v5).put (some 14) (.pointer (some ⟨B19, 0, none⟩))) W := fun v5 B19 W hb g5 r19 l19 => by
    refine wpAnyH_ready (rs := [11, 18, 20]) (by kernel_rfl) (by simp) ?_
    refine AllReadyH.call (d := 71) (f := 12) (args := #[x11_0, x11_1]) (OP := .call { callee := .value (.func 12), args := #[.tmp 66, .tmp 70], argTypes := #[29, 9] }) (T := 38) rfl rfl rfl rfl (by rfl) (by have h0 := e11_0; have h1 := e11_1; simp [Act.eval, go_sem] at h0 h1; simp [execOp, resolve, invoke, go_sem, h0, h1]) ?_ ?_
    · refine (c11 W hb).mono ?_
      rintro e w' ⟨v11, rfl, g11, b'⟩
      have hb' := hb.trans (b'.mono hb.size)
      refine ⟨_, rfl, hS _ hb', ?_⟩
      rw [put_comm (show 14 ≠ 71 by decide)]
      exact h21_ v5 v11 B19 w' hb' (p5 _ _ _ g5 b') g11 (zr _ _ _ _ r19 b') l19
    refine AllReadyH.turn (d := 13) (OP := .alloc 38) (T := 0) (v := .pointer (some ⟨W.heap.size, 0, none⟩)) (w' := W.alloc (.cells #[.int .i64 0, .bool false] 38)) rfl rfl rfl rfl (by rfl) (by go_simp <;> rfl) (hS _ (hb.trans ((za W).mono hb.size))) ?_ ?_
    · rw [put_comm (show 14 ≠ 13 by decide)]
      exact h101_ v5 W.heap.size B19 _ (hb.trans ((za W).mono hb.size)) (p5 _ _ _ g5 (za W)) (heap_alloc_new W _) (zr _ _ _ _ r19 (za W)) hb.size l19 (fun e => by have := zl _ _ _ r19; omega)
    refine AllReadyH.turn (d := 15) (OP := .alloc 38) (T := 0) (v := .pointer (some ⟨W.heap.size, 0, none⟩)) (w' := W.alloc (.cells #[.int .i64 0, .bool false] 38)) rfl rfl rfl rfl (by rfl) (by go_simp <;> rfl) (hS _ (hb.trans ((za W).mono hb.size))) ?_ ?_
    · exact h112_ v5 B19 W.heap.size _ (hb.trans ((za W).mono hb.size)) (p5 _ _ _ g5 (za W)) (zr _ _ _ _ r19 (za W)) (heap_alloc_new W _) l19 hb.size (fun e => by have := zl _ _ _ r19; omega)
    exact AllReadyH.nil
  have h12_ : ∀ (v5 : Value) (B20 : Nat) (W : World), Below w0.heap.size w0 W → C5 v5 W → W.heap[B20]? = some (.cells #[.int .i64 0, .bool false] 38) → w0.heap.size ≤ B20 → wpAnyH Try.prog .any ops_regE Q S 7 #[true, true, true, true, true, true, true, true, true, true, true, false, true, true, true, true, true, false, false, false, true, false, false, false] ((a.put (some 65) v5).put (some 15) (.pointer (some ⟨B20, 0, none⟩))) W := fun v5 B20 W hb g5 r20 l20 => by
    refine wpAnyH_ready (rs := [11, 18, 19]) (by kernel_rfl) (by simp) ?_
    refine AllReadyH.call (d := 71) (f := 12) (args := #[x11_0, x11_1]) (OP := .call { callee := .value (.func 12), args := #[.tmp 66, .tmp 70], argTypes := #[29, 9] }) (T := 38) rfl rfl rfl rfl (by rfl) (by have h0 := e11_0; have h1 := e11_1; simp [Act.eval, go_sem] at h0 h1; simp [execOp, resolve, invoke, go_sem, h0, h1]) ?_ ?_
    · refine (c11 W hb).mono ?_
      rintro e w' ⟨v11, rfl, g11, b'⟩
      have hb' := hb.trans (b'.mono hb.size)
      refine ⟨_, rfl, hS _ hb', ?_⟩
      rw [put_comm (show 15 ≠ 71 by decide)]
      exact h22_ v5 v11 B20 w' hb' (p5 _ _ _ g5 b') g11 (zr _ _ _ _ r20 b') l20
    refine AllReadyH.turn (d := 13) (OP := .alloc 38) (T := 0) (v := .pointer (some ⟨W.heap.size, 0, none⟩)) (w' := W.alloc (.cells #[.int .i64 0, .bool false] 38)) rfl rfl rfl rfl (by rfl) (by go_simp <;> rfl) (hS _ (hb.trans ((za W).mono hb.size))) ?_ ?_
    · rw [put_comm (show 15 ≠ 13 by decide)]
      exact h102_ v5 W.heap.size B20 _ (hb.trans ((za W).mono hb.size)) (p5 _ _ _ g5 (za W)) (heap_alloc_new W _) (zr _ _ _ _ r20 (za W)) hb.size l20 (fun e => by have := zl _ _ _ r20; omega)
    refine AllReadyH.turn (d := 14) (OP := .alloc 38) (T := 0) (v := .pointer (some ⟨W.heap.size, 0, none⟩)) (w' := W.alloc (.cells #[.int .i64 0, .bool false] 38)) rfl rfl rfl rfl (by rfl) (by go_simp <;> rfl) (hS _ (hb.trans ((za W).mono hb.size))) ?_ ?_
    · rw [put_comm (show 15 ≠ 14 by decide)]
      exact h112_ v5 W.heap.size B20 _ (hb.trans ((za W).mono hb.size)) (p5 _ _ _ g5 (za W)) (heap_alloc_new W _) (zr _ _ _ _ r20 (za W)) hb.size l20 (fun e => by have := zl _ _ _ r20; omega)
    exact AllReadyH.nil
  have h001_ : ∀ (B18 : Nat) (B19 : Nat) (W : World), Below w0.heap.size w0 W → W.heap[B18]? = some (.cells #[.int .i64 0, .bool false] 38) → W.heap[B19]? = some (.cells #[.int .i64 0, .bool false] 38) → w0.heap.size ≤ B18 → w0.heap.size ≤ B19 → B18 ≠ B19 → wpAnyH Try.prog .any ops_regE Q S 7 #[true, true, true, true, true, false, true, true, true, true, true, false, true, true, true, true, true, false, true, true, false, false, false, false] ((a.put (some 13) (.pointer (some ⟨B18, 0, none⟩))).put (some 14) (.pointer (some ⟨B19, 0, none⟩))) W := fun B18 B19 W hb r18 r19 l18 l19 n18_19 => by
    refine wpAnyH_ready (rs := [5, 20]) (by kernel_rfl) (by simp) ?_
    refine AllReadyH.call (d := 65) (f := 12) (args := #[x5_0, x5_1]) (OP := .call { callee := .value (.func 12), args := #[.tmp 60, .tmp 64], argTypes := #[29, 9] }) (T := 38) rfl rfl rfl rfl (by rfl) (by have h0 := e5_0; have h1 := e5_1; simp [Act.eval, go_sem] at h0 h1; simp [execOp, resolve, invoke, go_sem, h0, h1]) ?_ ?_
    · refine (c5 W hb).mono ?_
      rintro e w' ⟨v5, rfl, g5, b'⟩
      have hb' := hb.trans (b'.mono hb.size)
      refine ⟨_, rfl, hS _ hb', ?_⟩
      rw [put_comm (show 14 ≠ 65 by decide), put_comm (show 13 ≠ 65 by decide)]
      exact h101_ v5 B18 B19 w' hb' g5 (zr _ _ _ _ r18 b') (zr _ _ _ _ r19 b') l18 l19 n18_19
    refine AllReadyH.turn (d := 15) (OP := .alloc 38) (T := 0) (v := .pointer (some ⟨W.heap.size, 0, none⟩)) (w' := W.alloc (.cells #[.int .i64 0, .bool false] 38)) rfl rfl rfl rfl (by rfl) (by go_simp <;> rfl) (hS _ (hb.trans ((za W).mono hb.size))) ?_ ?_
    · exact h0012_ B18 B19 W.heap.size _ (hb.trans ((za W).mono hb.size)) (zr _ _ _ _ r18 (za W)) (zr _ _ _ _ r19 (za W)) (heap_alloc_new W _) l18 l19 hb.size n18_19 (fun e => by have := zl _ _ _ r18; omega) (fun e => by have := zl _ _ _ r19; omega)
    exact AllReadyH.nil
  have h002_ : ∀ (B18 : Nat) (B20 : Nat) (W : World), Below w0.heap.size w0 W → W.heap[B18]? = some (.cells #[.int .i64 0, .bool false] 38) → W.heap[B20]? = some (.cells #[.int .i64 0, .bool false] 38) → w0.heap.size ≤ B18 → w0.heap.size ≤ B20 → B18 ≠ B20 → wpAnyH Try.prog .any ops_regE Q S 7 #[true, true, true, true, true, false, true, true, true, true, true, false, true, true, true, true, true, false, true, false, true, false, false, false] ((a.put (some 13) (.pointer (some ⟨B18, 0, none⟩))).put (some 15) (.pointer (some ⟨B20, 0, none⟩))) W := fun B18 B20 W hb r18 r20 l18 l20 n18_20 => by
    refine wpAnyH_ready (rs := [5, 19]) (by kernel_rfl) (by simp) ?_
    refine AllReadyH.call (d := 65) (f := 12) (args := #[x5_0, x5_1]) (OP := .call { callee := .value (.func 12), args := #[.tmp 60, .tmp 64], argTypes := #[29, 9] }) (T := 38) rfl rfl rfl rfl (by rfl) (by have h0 := e5_0; have h1 := e5_1; simp [Act.eval, go_sem] at h0 h1; simp [execOp, resolve, invoke, go_sem, h0, h1]) ?_ ?_
    · refine (c5 W hb).mono ?_
      rintro e w' ⟨v5, rfl, g5, b'⟩
      have hb' := hb.trans (b'.mono hb.size)
      refine ⟨_, rfl, hS _ hb', ?_⟩
      rw [put_comm (show 15 ≠ 65 by decide), put_comm (show 13 ≠ 65 by decide)]
      exact h102_ v5 B18 B20 w' hb' g5 (zr _ _ _ _ r18 b') (zr _ _ _ _ r20 b') l18 l20 n18_20
    refine AllReadyH.turn (d := 14) (OP := .alloc 38) (T := 0) (v := .pointer (some ⟨W.heap.size, 0, none⟩)) (w' := W.alloc (.cells #[.int .i64 0, .bool false] 38)) rfl rfl rfl rfl (by rfl) (by go_simp <;> rfl) (hS _ (hb.trans ((za W).mono hb.size))) ?_ ?_
    · rw [put_comm (show 15 ≠ 14 by decide)]
      exact h0012_ B18 W.heap.size B20 _ (hb.trans ((za W).mono hb.size)) (zr _ _ _ _ r18 (za W)) (heap_alloc_new W _) (zr _ _ _ _ r20 (za W)) l18 hb.size l20 (fun e => by have := zl _ _ _ r18; omega) n18_20 (fun e => by have := zl _ _ _ r20; omega)
    exact AllReadyH.nil
  have h012_ : ∀ (B19 : Nat) (B20 : Nat) (W : World), Below w0.heap.size w0 W → W.heap[B19]? = some (.cells #[.int .i64 0, .bool false] 38) → W.heap[B20]? = some (.cells #[.int .i64 0, .bool false] 38) → w0.heap.size ≤ B19 → w0.heap.size ≤ B20 → B19 ≠ B20 → wpAnyH Try.prog .any ops_regE Q S 7 #[true, true, true, true, true, false, true, true, true, true, true, false, true, true, true, true, true, false, false, true, true, false, false, false] ((a.put (some 14) (.pointer (some ⟨B19, 0, none⟩))).put (some 15) (.pointer (some ⟨B20, 0, none⟩))) W := fun B19 B20 W hb r19 r20 l19 l20 n19_20 => by
    refine wpAnyH_ready (rs := [5, 18]) (by kernel_rfl) (by simp) ?_
    refine AllReadyH.call (d := 65) (f := 12) (args := #[x5_0, x5_1]) (OP := .call { callee := .value (.func 12), args := #[.tmp 60, .tmp 64], argTypes := #[29, 9] }) (T := 38) rfl rfl rfl rfl (by rfl) (by have h0 := e5_0; have h1 := e5_1; simp [Act.eval, go_sem] at h0 h1; simp [execOp, resolve, invoke, go_sem, h0, h1]) ?_ ?_
    · refine (c5 W hb).mono ?_
      rintro e w' ⟨v5, rfl, g5, b'⟩
      have hb' := hb.trans (b'.mono hb.size)
      refine ⟨_, rfl, hS _ hb', ?_⟩
      rw [put_comm (show 15 ≠ 65 by decide), put_comm (show 14 ≠ 65 by decide)]
      exact h112_ v5 B19 B20 w' hb' g5 (zr _ _ _ _ r19 b') (zr _ _ _ _ r20 b') l19 l20 n19_20
    refine AllReadyH.turn (d := 13) (OP := .alloc 38) (T := 0) (v := .pointer (some ⟨W.heap.size, 0, none⟩)) (w' := W.alloc (.cells #[.int .i64 0, .bool false] 38)) rfl rfl rfl rfl (by rfl) (by go_simp <;> rfl) (hS _ (hb.trans ((za W).mono hb.size))) ?_ ?_
    · rw [put_comm (show 15 ≠ 13 by decide), put_comm (show 14 ≠ 13 by decide)]
      exact h0012_ W.heap.size B19 B20 _ (hb.trans ((za W).mono hb.size)) (heap_alloc_new W _) (zr _ _ _ _ r19 (za W)) (zr _ _ _ _ r20 (za W)) hb.size l19 l20 (fun e => by have := zl _ _ _ r19; omega) (fun e => by have := zl _ _ _ r20; omega) n19_20
    exact AllReadyH.nil
  have h1_ : ∀ (v5 : Value) (W : World), Below w0.heap.size w0 W → C5 v5 W → wpAnyH Try.prog .any ops_regE Q S 8 #[true, true, true, true, true, true, true, true, true, true, true, false, true, true, true, true, true, false, false, false, false, false, false, false] (a.put (some 65) v5) W := fun v5 W hb g5 => by
    refine wpAnyH_ready (rs := [11, 18, 19, 20]) (by kernel_rfl) (by simp) ?_
    refine AllReadyH.call (d := 71) (f := 12) (args := #[x11_0, x11_1]) (OP := .call { callee := .value (.func 12), args := #[.tmp 66, .tmp 70], argTypes := #[29, 9] }) (T := 38) rfl rfl rfl rfl (by rfl) (by have h0 := e11_0; have h1 := e11_1; simp [Act.eval, go_sem] at h0 h1; simp [execOp, resolve, invoke, go_sem, h0, h1]) ?_ ?_
    · refine (c11 W hb).mono ?_
      rintro e w' ⟨v11, rfl, g11, b'⟩
      have hb' := hb.trans (b'.mono hb.size)
      refine ⟨_, rfl, hS _ hb', ?_⟩
      exact h2_ v5 v11 w' hb' (p5 _ _ _ g5 b') g11
    refine AllReadyH.turn (d := 13) (OP := .alloc 38) (T := 0) (v := .pointer (some ⟨W.heap.size, 0, none⟩)) (w' := W.alloc (.cells #[.int .i64 0, .bool false] 38)) rfl rfl rfl rfl (by rfl) (by go_simp <;> rfl) (hS _ (hb.trans ((za W).mono hb.size))) ?_ ?_
    · exact h10_ v5 W.heap.size _ (hb.trans ((za W).mono hb.size)) (p5 _ _ _ g5 (za W)) (heap_alloc_new W _) hb.size
    refine AllReadyH.turn (d := 14) (OP := .alloc 38) (T := 0) (v := .pointer (some ⟨W.heap.size, 0, none⟩)) (w' := W.alloc (.cells #[.int .i64 0, .bool false] 38)) rfl rfl rfl rfl (by rfl) (by go_simp <;> rfl) (hS _ (hb.trans ((za W).mono hb.size))) ?_ ?_
    · exact h11_ v5 W.heap.size _ (hb.trans ((za W).mono hb.size)) (p5 _ _ _ g5 (za W)) (heap_alloc_new W _) hb.size
    refine AllReadyH.turn (d := 15) (OP := .alloc 38) (T := 0) (v := .pointer (some ⟨W.heap.size, 0, none⟩)) (w' := W.alloc (.cells #[.int .i64 0, .bool false] 38)) rfl rfl rfl rfl (by rfl) (by go_simp <;> rfl) (hS _ (hb.trans ((za W).mono hb.size))) ?_ ?_
    · exact h12_ v5 W.heap.size _ (hb.trans ((za W).mono hb.size)) (p5 _ _ _ g5 (za W)) (heap_alloc_new W _) hb.size
    exact AllReadyH.nil
  have h00_ : ∀ (B18 : Nat) (W : World), Below w0.heap.size w0 W → W.heap[B18]? = some (.cells #[.int .i64 0, .bool false] 38) → w0.heap.size ≤ B18 → wpAnyH Try.prog .any ops_regE Q S 8 #[true, true, true, true, true, false, true, true, true, true, true, false, true, true, true, true, true, false, true, false, false, false, false, false] (a.put (some 13) (.pointer (some ⟨B18, 0, none⟩))) W := fun B18 W hb r18 l18 => by
    refine wpAnyH_ready (rs := [5, 19, 20]) (by kernel_rfl) (by simp) ?_
    refine AllReadyH.call (d := 65) (f := 12) (args := #[x5_0, x5_1]) (OP := .call { callee := .value (.func 12), args := #[.tmp 60, .tmp 64], argTypes := #[29, 9] }) (T := 38) rfl rfl rfl rfl (by rfl) (by have h0 := e5_0; have h1 := e5_1; simp [Act.eval, go_sem] at h0 h1; simp [execOp, resolve, invoke, go_sem, h0, h1]) ?_ ?_
    · refine (c5 W hb).mono ?_
      rintro e w' ⟨v5, rfl, g5, b'⟩
      have hb' := hb.trans (b'.mono hb.size)
      refine ⟨_, rfl, hS _ hb', ?_⟩
      rw [put_comm (show 13 ≠ 65 by decide)]
      exact h10_ v5 B18 w' hb' g5 (zr _ _ _ _ r18 b') l18
    refine AllReadyH.turn (d := 14) (OP := .alloc 38) (T := 0) (v := .pointer (some ⟨W.heap.size, 0, none⟩)) (w' := W.alloc (.cells #[.int .i64 0, .bool false] 38)) rfl rfl rfl rfl (by rfl) (by go_simp <;> rfl) (hS _ (hb.trans ((za W).mono hb.size))) ?_ ?_
    · exact h001_ B18 W.heap.size _ (hb.trans ((za W).mono hb.size)) (zr _ _ _ _ r18 (za W)) (heap_alloc_new W _) l18 hb.size (fun e => by have := zl _ _ _ r18; omega)
    refine AllReadyH.turn (d := 15) (OP := .alloc 38) (T := 0) (v := .pointer (some ⟨W.heap.size, 0, none⟩)) (w' := W.alloc (.cells #[.int .i64 0, .bool false] 38)) rfl rfl rfl rfl (by rfl) (by go_simp <;> rfl) (hS _ (hb.trans ((za W).mono hb.size))) ?_ ?_
    · exact h002_ B18 W.heap.size _ (hb.trans ((za W).mono hb.size)) (zr _ _ _ _ r18 (za W)) (heap_alloc_new W _) l18 hb.size (fun e => by have := zl _ _ _ r18; omega)
    exact AllReadyH.nil
  have h01_ : ∀ (B19 : Nat) (W : World), Below w0.heap.size w0 W → W.heap[B19]? = some (.cells #[.int .i64 0, .bool false] 38) → w0.heap.size ≤ B19 → wpAnyH Try.prog .any ops_regE Q S 8 #[true, true, true, true, true, false, true, true, true, true, true, false, true, true, true, true, true, false, false, true, false, false, false, false] (a.put (some 14) (.pointer (some ⟨B19, 0, none⟩))) W := fun B19 W hb r19 l19 => by
    refine wpAnyH_ready (rs := [5, 18, 20]) (by kernel_rfl) (by simp) ?_
    refine AllReadyH.call (d := 65) (f := 12) (args := #[x5_0, x5_1]) (OP := .call { callee := .value (.func 12), args := #[.tmp 60, .tmp 64], argTypes := #[29, 9] }) (T := 38) rfl rfl rfl rfl (by rfl) (by have h0 := e5_0; have h1 := e5_1; simp [Act.eval, go_sem] at h0 h1; simp [execOp, resolve, invoke, go_sem, h0, h1]) ?_ ?_
    · refine (c5 W hb).mono ?_
      rintro e w' ⟨v5, rfl, g5, b'⟩
      have hb' := hb.trans (b'.mono hb.size)
      refine ⟨_, rfl, hS _ hb', ?_⟩
      rw [put_comm (show 14 ≠ 65 by decide)]
      exact h11_ v5 B19 w' hb' g5 (zr _ _ _ _ r19 b') l19
    refine AllReadyH.turn (d := 13) (OP := .alloc 38) (T := 0) (v := .pointer (some ⟨W.heap.size, 0, none⟩)) (w' := W.alloc (.cells #[.int .i64 0, .bool false] 38)) rfl rfl rfl rfl (by rfl) (by go_simp <;> rfl) (hS _ (hb.trans ((za W).mono hb.size))) ?_ ?_
    · rw [put_comm (show 14 ≠ 13 by decide)]
      exact h001_ W.heap.size B19 _ (hb.trans ((za W).mono hb.size)) (heap_alloc_new W _) (zr _ _ _ _ r19 (za W)) hb.size l19 (fun e => by have := zl _ _ _ r19; omega)
    refine AllReadyH.turn (d := 15) (OP := .alloc 38) (T := 0) (v := .pointer (some ⟨W.heap.size, 0, none⟩)) (w' := W.alloc (.cells #[.int .i64 0, .bool false] 38)) rfl rfl rfl rfl (by rfl) (by go_simp <;> rfl) (hS _ (hb.trans ((za W).mono hb.size))) ?_ ?_
    · exact h012_ B19 W.heap.size _ (hb.trans ((za W).mono hb.size)) (zr _ _ _ _ r19 (za W)) (heap_alloc_new W _) l19 hb.size (fun e => by have := zl _ _ _ r19; omega)
    exact AllReadyH.nil
  have h02_ : ∀ (B20 : Nat) (W : World), Below w0.heap.size w0 W → W.heap[B20]? = some (.cells #[.int .i64 0, .bool false] 38) → w0.heap.size ≤ B20 → wpAnyH Try.prog .any ops_regE Q S 8 #[true, true, true, true, true, false, true, true, true, true, true, false, true, true, true, true, true, false, false, false, true, false, false, false] (a.put (some 15) (.pointer (some ⟨B20, 0, none⟩))) W := fun B20 W hb r20 l20 => by
    refine wpAnyH_ready (rs := [5, 18, 19]) (by kernel_rfl) (by simp) ?_
    refine AllReadyH.call (d := 65) (f := 12) (args := #[x5_0, x5_1]) (OP := .call { callee := .value (.func 12), args := #[.tmp 60, .tmp 64], argTypes := #[29, 9] }) (T := 38) rfl rfl rfl rfl (by rfl) (by have h0 := e5_0; have h1 := e5_1; simp [Act.eval, go_sem] at h0 h1; simp [execOp, resolve, invoke, go_sem, h0, h1]) ?_ ?_
    · refine (c5 W hb).mono ?_
      rintro e w' ⟨v5, rfl, g5, b'⟩
      have hb' := hb.trans (b'.mono hb.size)
      refine ⟨_, rfl, hS _ hb', ?_⟩
      rw [put_comm (show 15 ≠ 65 by decide)]
      exact h12_ v5 B20 w' hb' g5 (zr _ _ _ _ r20 b') l20
    refine AllReadyH.turn (d := 13) (OP := .alloc 38) (T := 0) (v := .pointer (some ⟨W.heap.size, 0, none⟩)) (w' := W.alloc (.cells #[.int .i64 0, .bool false] 38)) rfl rfl rfl rfl (by rfl) (by go_simp <;> rfl) (hS _ (hb.trans ((za W).mono hb.size))) ?_ ?_
    · rw [put_comm (show 15 ≠ 13 by decide)]
      exact h002_ W.heap.size B20 _ (hb.trans ((za W).mono hb.size)) (heap_alloc_new W _) (zr _ _ _ _ r20 (za W)) hb.size l20 (fun e => by have := zl _ _ _ r20; omega)
    refine AllReadyH.turn (d := 14) (OP := .alloc 38) (T := 0) (v := .pointer (some ⟨W.heap.size, 0, none⟩)) (w' := W.alloc (.cells #[.int .i64 0, .bool false] 38)) rfl rfl rfl rfl (by rfl) (by go_simp <;> rfl) (hS _ (hb.trans ((za W).mono hb.size))) ?_ ?_
    · rw [put_comm (show 15 ≠ 14 by decide)]
      exact h012_ W.heap.size B20 _ (hb.trans ((za W).mono hb.size)) (heap_alloc_new W _) (zr _ _ _ _ r20 (za W)) hb.size l20 (fun e => by have := zl _ _ _ r20; omega)
    exact AllReadyH.nil
  have h0_ : ∀ (W : World), Below w0.heap.size w0 W → wpAnyH Try.prog .any ops_regE Q S 9 #[true, true, true, true, true, false, true, true, true, true, true, false, true, true, true, true, true, false, false, false, false, false, false, false] a W := fun  W hb => by
    refine wpAnyH_ready (rs := [5, 18, 19, 20]) (by kernel_rfl) (by simp) ?_
    refine AllReadyH.call (d := 65) (f := 12) (args := #[x5_0, x5_1]) (OP := .call { callee := .value (.func 12), args := #[.tmp 60, .tmp 64], argTypes := #[29, 9] }) (T := 38) rfl rfl rfl rfl (by rfl) (by have h0 := e5_0; have h1 := e5_1; simp [Act.eval, go_sem] at h0 h1; simp [execOp, resolve, invoke, go_sem, h0, h1]) ?_ ?_
    · refine (c5 W hb).mono ?_
      rintro e w' ⟨v5, rfl, g5, b'⟩
      have hb' := hb.trans (b'.mono hb.size)
      refine ⟨_, rfl, hS _ hb', ?_⟩
      exact h1_ v5 w' hb' g5
    refine AllReadyH.turn (d := 13) (OP := .alloc 38) (T := 0) (v := .pointer (some ⟨W.heap.size, 0, none⟩)) (w' := W.alloc (.cells #[.int .i64 0, .bool false] 38)) rfl rfl rfl rfl (by rfl) (by go_simp <;> rfl) (hS _ (hb.trans ((za W).mono hb.size))) ?_ ?_
    · exact h00_ W.heap.size _ (hb.trans ((za W).mono hb.size)) (heap_alloc_new W _) hb.size
    refine AllReadyH.turn (d := 14) (OP := .alloc 38) (T := 0) (v := .pointer (some ⟨W.heap.size, 0, none⟩)) (w' := W.alloc (.cells #[.int .i64 0, .bool false] 38)) rfl rfl rfl rfl (by rfl) (by go_simp <;> rfl) (hS _ (hb.trans ((za W).mono hb.size))) ?_ ?_
    · exact h01_ W.heap.size _ (hb.trans ((za W).mono hb.size)) (heap_alloc_new W _) hb.size
    refine AllReadyH.turn (d := 15) (OP := .alloc 38) (T := 0) (v := .pointer (some ⟨W.heap.size, 0, none⟩)) (w' := W.alloc (.cells #[.int .i64 0, .bool false] 38)) rfl rfl rfl rfl (by rfl) (by go_simp <;> rfl) (hS _ (hb.trans ((za W).mono hb.size))) ?_ ?_
    · exact h02_ W.heap.size _ (hb.trans ((za W).mono hb.size)) (heap_alloc_new W _) hb.size
    exact AllReadyH.nil
  exact h0_ W hW
end Go.Proofs.Ytckkoigghkgfdaa
