/-
  Changes' closure, region 4: calls in a row, and boxes that may be made at any time.
  WalkTwo's region 10: calls in a row, and boxes that may be made at any time.
-/
import Derived.Test.YtckkoigghkgfdaaOrders
namespace Go.Proofs.Ytckkoigghkgfdaa
open Go.RowKit Go.Shelf
set_option linter.unusedSimpArgs false

/-- The region's operations. -/
def ops_regC : Array Oper := #[{ dst := some 16, op := Go.Op.load 29 (Go.Operand.tmp 4), type := 29, pos := "walk.go:70", after := #[], guard := none }, { dst := some 17, op := Go.Op.move (Go.Operand.tmp 7), type := 9, pos := "walk.go:70", after := #[], guard := none }, { dst := some 18, op := Go.Op.call { callee := Go.Callee.value (Go.Operand.func 33), args := #[Go.Operand.tmp 16, Go.Operand.tmp 17], argTypes := #[29, 9] }, type := 70, pos := "walk.go:70", after := #[{ on := 0, ground := Go.Ground.data }, { on := 1, ground := Go.Ground.data }], guard := none }, { dst := some 19, op := Go.Op.load 29 (Go.Operand.tmp 5), type := 29, pos := "walk.go:70", after := #[], guard := none }, { dst := some 20, op := Go.Op.move (Go.Operand.tmp 7), type := 9, pos := "walk.go:70", after := #[], guard := none }, { dst := some 21, op := Go.Op.call { callee := Go.Callee.value (Go.Operand.func 33), args := #[Go.Operand.tmp 19, Go.Operand.tmp 20], argTypes := #[29, 9] }, type := 70, pos := "walk.go:70", after := #[{ on := 3, ground := Go.Ground.data }, { on := 4, ground := Go.Ground.data }, { on := 2, ground := Go.Ground.chain }], guard := none }, { dst := some 8, op := Go.Op.alloc 70, type := 0, pos := "walk.go:70", after := #[], guard := none }, { dst := some 9, op := Go.Op.alloc 70, type := 0, pos := "walk.go:70", after := #[], guard := none }, { dst := none, op := Go.Op.store 70 (Go.Operand.tmp 8) (Go.Operand.tmp 18), type := 0, pos := "walk.go:70", after := #[{ on := 6, ground := Go.Ground.data }, { on := 2, ground := Go.Ground.data }, { on := 5, ground := Go.Ground.chain }, { on := 0, ground := Go.Ground.phase }, { on := 1, ground := Go.Ground.phase }, { on := 2, ground := Go.Ground.phase }, { on := 3, ground := Go.Ground.textOnly Go.Departure.lateStores }, { on := 4, ground := Go.Ground.textOnly Go.Departure.lateStores }, { on := 5, ground := Go.Ground.textOnly Go.Departure.lateStoresUnsure }, { on := 6, ground := Go.Ground.phase }, { on := 7, ground := Go.Ground.phase }], guard := none }, { dst := none, op := Go.Op.store 70 (Go.Operand.tmp 9) (Go.Operand.tmp 21), type := 0, pos := "walk.go:70", after := #[{ on := 7, ground := Go.Ground.data }, { on := 5, ground := Go.Ground.data }, { on := 8, ground := Go.Ground.chain }, { on := 0, ground := Go.Ground.phase }, { on := 1, ground := Go.Ground.phase }, { on := 2, ground := Go.Ground.phase }, { on := 3, ground := Go.Ground.phase }, { on := 4, ground := Go.Ground.phase }, { on := 5, ground := Go.Ground.phase }, { on := 6, ground := Go.Ground.phase }, { on := 7, ground := Go.Ground.phase }, { on := 8, ground := Go.Ground.phase }], guard := none }]
set_option maxHeartbeats 4000000 in
theorem regC_any {Q : Exit → Act → World → Prop} {S : World → Prop} {a : Act} {w0 : World} {x2_0 x2_1 x5_0 x5_1 : Value} {C2 C5 : Value → World → Prop}
    (e2_0 : a.eval (.tmp 16) = x2_0) (e2_1 : a.eval (.tmp 17) = x2_1) (e5_0 : a.eval (.tmp 19) = x5_0) (e5_1 : a.eval (.tmp 20) = x5_1)
    (hS : ∀ W, Below w0.heap.size w0 W → S W)
    (c2 : ∀ W, Below w0.heap.size w0 W → Calls Try.prog 33 #[x2_0, x2_1] W fun e w' => ∃ v, e = .returned v ∧ C2 v w' ∧ Below W.heap.size W w')
    (c5 : ∀ W, Below w0.heap.size w0 W → Calls Try.prog 33 #[x5_0, x5_1] W fun e w' => ∃ v, e = .returned v ∧ C5 v w' ∧ Below W.heap.size W w')
    (p2 : ∀ v W W', C2 v W → Below W.heap.size W W' → C2 v W') (p5 : ∀ v W W', C5 v W → Below W.heap.size W W' → C5 v W')
    (fin : ∀ (v2 : Value) (v5 : Value) (B6 : Nat) (B7 : Nat) (W : World), Below w0.heap.size w0 W → C2 v2 W → C5 v5 W → W.heap[B6]? = some (.cells #[.pointer none, .pointer none, .int .i64 0, .bool false] 70) → W.heap[B7]? = some (.cells #[.pointer none, .pointer none, .int .i64 0, .bool false] 70) → w0.heap.size ≤ B6 → w0.heap.size ≤ B7 → B6 ≠ B7 → wpAnyH Try.prog .any ops_regC Q S 2 #[true, true, true, true, true, true, true, true, false, false] ((((a.put (some 18) v2).put (some 21) v5).put (some 8) (.pointer (some ⟨B6, 0, none⟩))).put (some 9) (.pointer (some ⟨B7, 0, none⟩))) W) (W : World) (hW : Below w0.heap.size w0 W) :
    wpAnyH Try.prog .any ops_regC Q S 6 #[true, true, false, true, true, false, false, false, false, false] a W := by
  have zr : ∀ (W W' : World) (B : Nat) (o : Obj), W.heap[B]? = some o → Below W.heap.size W W' → W'.heap[B]? = some o := fun W W' B o h hb => (hb.block _ (Array.getElem?_eq_some_iff.1 h).1).trans h
  have zl : ∀ (W : World) (B : Nat) (o : Obj), W.heap[B]? = some o → B < W.heap.size := fun W B o h => (Array.getElem?_eq_some_iff.1 h).1
  have za : ∀ W : World, Below W.heap.size W (W.alloc (.cells #[.pointer none, .pointer none, .int .i64 0, .bool false] 70)) := fun W => (Below.refl _ W).alloc (Nat.le_refl _) _
  have h20_ : ∀ (v2 : Value) (v5 : Value) (B6 : Nat) (W : World), Below w0.heap.size w0 W → C2 v2 W → C5 v5 W → W.heap[B6]? = some (.cells #[.pointer none, .pointer none, .int .i64 0, .bool false] 70) → w0.heap.size ≤ B6 → wpAnyH Try.prog .any ops_regC Q S 3 #[true, true, true, true, true, true, true, false, false, false] (((a.put (some 18) v2).put (some 21) v5).put (some 8) (.pointer (some ⟨B6, 0, none⟩))) W := fun v2 v5 B6 W hb g2 g5 r6 l6 => by
    refine wpAnyH_ready (rs := [7]) (by kernel_rfl) (by simp) ?_
    refine AllReadyH.turn (d := 9) (OP := .alloc 70) (T := 0) (v := .pointer (some ⟨W.heap.size, 0, none⟩)) (w' := W.alloc (.cells #[.pointer none, .pointer none, .int .i64 0, .bool false] 70)) rfl rfl rfl rfl (by rfl) (by go_simp <;> rfl) (hS _ (hb.trans ((za W).mono hb.size))) ?_ ?_
    · exact fin v2 v5 B6 W.heap.size _ (hb.trans ((za W).mono hb.size)) (p2 _ _ _ g2 (za W)) (p5 _ _ _ g5 (za W)) (zr _ _ _ _ r6 (za W)) (heap_alloc_new W _) l6 hb.size (fun e => by have := zl _ _ _ r6; omega)
    exact AllReadyH.nil
  have h21_ : ∀ (v2 : Value) (v5 : Value) (B7 : Nat) (W : World), Below w0.heap.size w0 W → C2 v2 W → C5 v5 W → W.heap[B7]? = some (.cells #[.pointer none, .pointer none, .int .i64 0, .bool false] 70) → w0.heap.size ≤ B7 → wpAnyH Try.prog .any ops_regC Q S 3 #[true, true, true, true, true, true, false, true, false, false] (((a.put (some 18) v2).put (some 21) v5).put (some 9) (.pointer (some ⟨B7, 0, none⟩))) W := fun v2 v5 B7 W hb g2 g5 r7 l7 => by
    refine wpAnyH_ready (rs := [6]) (by kernel_rfl) (by simp) ?_
    refine AllReadyH.turn (d := 8) (OP := .alloc 70) (T := 0) (v := .pointer (some ⟨W.heap.size, 0, none⟩)) (w' := W.alloc (.cells #[.pointer none, .pointer none, .int .i64 0, .bool false] 70)) rfl rfl rfl rfl (by rfl) (by go_simp <;> rfl) (hS _ (hb.trans ((za W).mono hb.size))) ?_ ?_
    · rw [put_comm (show 9 ≠ 8 by decide)]
      exact fin v2 v5 W.heap.size B7 _ (hb.trans ((za W).mono hb.size)) (p2 _ _ _ g2 (za W)) (p5 _ _ _ g5 (za W)) (heap_alloc_new W _) (zr _ _ _ _ r7 (za W)) hb.size l7 (fun e => by have := zl _ _ _ r7; omega)
    exact AllReadyH.nil
  have h101_ : ∀ (v2 : Value) (B6 : Nat) (B7 : Nat) (W : World), Below w0.heap.size w0 W → C2 v2 W → W.heap[B6]? = some (.cells #[.pointer none, .pointer none, .int .i64 0, .bool false] 70) → W.heap[B7]? = some (.cells #[.pointer none, .pointer none, .int .i64 0, .bool false] 70) → w0.heap.size ≤ B6 → w0.heap.size ≤ B7 → B6 ≠ B7 → wpAnyH Try.prog .any ops_regC Q S 3 #[true, true, true, true, true, false, true, true, false, false] (((a.put (some 18) v2).put (some 8) (.pointer (some ⟨B6, 0, none⟩))).put (some 9) (.pointer (some ⟨B7, 0, none⟩))) W := fun v2 B6 B7 W hb g2 r6 r7 l6 l7 n6_7 => by
    refine wpAnyH_ready (rs := [5]) (by kernel_rfl) (by simp) ?_
    refine AllReadyH.call (d := 21) (f := 33) (args := #[x5_0, x5_1]) (OP := .call { callee := .value (.func 33), args := #[.tmp 19, .tmp 20], argTypes := #[29, 9] }) (T := 70) rfl rfl rfl rfl (by rfl) (by have h0 := e5_0; have h1 := e5_1; simp [Act.eval, go_sem] at h0 h1; simp [execOp, resolve, invoke, go_sem, h0, h1]) ?_ ?_
    · refine (c5 W hb).mono ?_
      rintro e w' ⟨v5, rfl, g5, b'⟩
      have hb' := hb.trans (b'.mono hb.size)
      refine ⟨_, rfl, hS _ hb', ?_⟩
      rw [put_comm (show 9 ≠ 21 by decide), put_comm (show 8 ≠ 21 by decide)]
      exact fin v2 v5 B6 B7 w' hb' (p2 _ _ _ g2 b') g5 (zr _ _ _ _ r6 b') (zr _ _ _ _ r7 b') l6 l7 n6_7
    exact AllReadyH.nil
  have h2_ : ∀ (v2 : Value) (v5 : Value) (W : World), Below w0.heap.size w0 W → C2 v2 W → C5 v5 W → wpAnyH Try.prog .any ops_regC Q S 4 #[true, true, true, true, true, true, false, false, false, false] ((a.put (some 18) v2).put (some 21) v5) W := fun v2 v5 W hb g2 g5 => by
    refine wpAnyH_ready (rs := [6, 7]) (by kernel_rfl) (by simp) ?_
    refine AllReadyH.turn (d := 8) (OP := .alloc 70) (T := 0) (v := .pointer (some ⟨W.heap.size, 0, none⟩)) (w' := W.alloc (.cells #[.pointer none, .pointer none, .int .i64 0, .bool false] 70)) rfl rfl rfl rfl (by rfl) (by go_simp <;> rfl) (hS _ (hb.trans ((za W).mono hb.size))) ?_ ?_
    · exact h20_ v2 v5 W.heap.size _ (hb.trans ((za W).mono hb.size)) (p2 _ _ _ g2 (za W)) (p5 _ _ _ g5 (za W)) (heap_alloc_new W _) hb.size
    refine AllReadyH.turn (d := 9) (OP := .alloc 70) (T := 0) (v := .pointer (some ⟨W.heap.size, 0, none⟩)) (w' := W.alloc (.cells #[.pointer none, .pointer none, .int .i64 0, .bool false] 70)) rfl rfl rfl rfl (by rfl) (by go_simp <;> rfl) (hS _ (hb.trans ((za W).mono hb.size))) ?_ ?_
    · exact h21_ v2 v5 W.heap.size _ (hb.trans ((za W).mono hb.size)) (p2 _ _ _ g2 (za W)) (p5 _ _ _ g5 (za W)) (heap_alloc_new W _) hb.size
    exact AllReadyH.nil
  have h10_ : ∀ (v2 : Value) (B6 : Nat) (W : World), Below w0.heap.size w0 W → C2 v2 W → W.heap[B6]? = some (.cells #[.pointer none, .pointer none, .int .i64 0, .bool false] 70) → w0.heap.size ≤ B6 → wpAnyH Try.prog .any ops_regC Q S 4 #[true, true, true, true, true, false, true, false, false, false] ((a.put (some 18) v2).put (some 8) (.pointer (some ⟨B6, 0, none⟩))) W := fun v2 B6 W hb g2 r6 l6 => by
    refine wpAnyH_ready (rs := [5, 7]) (by kernel_rfl) (by simp) ?_
    refine AllReadyH.call (d := 21) (f := 33) (args := #[x5_0, x5_1]) (OP := .call { callee := .value (.func 33), args := #[.tmp 19, .tmp 20], argTypes := #[29, 9] }) (T := 70) rfl rfl rfl rfl (by rfl) (by have h0 := e5_0; have h1 := e5_1; simp [Act.eval, go_sem] at h0 h1; simp [execOp, resolve, invoke, go_sem, h0, h1]) ?_ ?_
    · refine (c5 W hb).mono ?_
      rintro e w' ⟨v5, rfl, g5, b'⟩
      have hb' := hb.trans (b'.mono hb.size)
      refine ⟨_, rfl, hS _ hb', ?_⟩
      rw [put_comm (show 8 ≠ 21 by decide)]
      exact h20_ v2 v5 B6 w' hb' (p2 _ _ _ g2 b') g5 (zr _ _ _ _ r6 b') l6
    refine AllReadyH.turn (d := 9) (OP := .alloc 70) (T := 0) (v := .pointer (some ⟨W.heap.size, 0, none⟩)) (w' := W.alloc (.cells #[.pointer none, .pointer none, .int .i64 0, .bool false] 70)) rfl rfl rfl rfl (by rfl) (by go_simp <;> rfl) (hS _ (hb.trans ((za W).mono hb.size))) ?_ ?_
    · exact h101_ v2 B6 W.heap.size _ (hb.trans ((za W).mono hb.size)) (p2 _ _ _ g2 (za W)) (zr _ _ _ _ r6 (za W)) (heap_alloc_new W _) l6 hb.size (fun e => by have := zl _ _ _ r6; omega)
    exact AllReadyH.nil
  have h11_ : ∀ (v2 : Value) (B7 : Nat) (W : World), Below w0.heap.size w0 W → C2 v2 W → W.heap[B7]? = some (.cells #[.pointer none, .pointer none, .int .i64 0, .bool false] 70) → w0.heap.size ≤ B7 → wpAnyH Try.prog .any ops_regC Q S 4 #[true, true, true, true, true, false, false, true, false, false] ((a.put (some 18) v2).put (some 9) (.pointer (some ⟨B7, 0, none⟩))) W := fun v2 B7 W hb g2 r7 l7 => by
    refine wpAnyH_ready (rs := [5, 6]) (by kernel_rfl) (by simp) ?_
    refine AllReadyH.call (d := 21) (f := 33) (args := #[x5_0, x5_1]) (OP := .call { callee := .value (.func 33), args := #[.tmp 19, .tmp 20], argTypes := #[29, 9] }) (T := 70) rfl rfl rfl rfl (by rfl) (by have h0 := e5_0; have h1 := e5_1; simp [Act.eval, go_sem] at h0 h1; simp [execOp, resolve, invoke, go_sem, h0, h1]) ?_ ?_
    · refine (c5 W hb).mono ?_
      rintro e w' ⟨v5, rfl, g5, b'⟩
      have hb' := hb.trans (b'.mono hb.size)
      refine ⟨_, rfl, hS _ hb', ?_⟩
      rw [put_comm (show 9 ≠ 21 by decide)]
      exact h21_ v2 v5 B7 w' hb' (p2 _ _ _ g2 b') g5 (zr _ _ _ _ r7 b') l7
    refine AllReadyH.turn (d := 8) (OP := .alloc 70) (T := 0) (v := .pointer (some ⟨W.heap.size, 0, none⟩)) (w' := W.alloc (.cells #[.pointer none, .pointer none, .int .i64 0, .bool false] 70)) rfl rfl rfl rfl (by rfl) (by go_simp <;> rfl) (hS _ (hb.trans ((za W).mono hb.size))) ?_ ?_
    · rw [put_comm (show 9 ≠ 8 by decide)]
      exact h101_ v2 W.heap.size B7 _ (hb.trans ((za W).mono hb.size)) (p2 _ _ _ g2 (za W)) (heap_alloc_new W _) (zr _ _ _ _ r7 (za W)) hb.size l7 (fun e => by have := zl _ _ _ r7; omega)
    exact AllReadyH.nil
  have h001_ : ∀ (B6 : Nat) (B7 : Nat) (W : World), Below w0.heap.size w0 W → W.heap[B6]? = some (.cells #[.pointer none, .pointer none, .int .i64 0, .bool false] 70) → W.heap[B7]? = some (.cells #[.pointer none, .pointer none, .int .i64 0, .bool false] 70) → w0.heap.size ≤ B6 → w0.heap.size ≤ B7 → B6 ≠ B7 → wpAnyH Try.prog .any ops_regC Q S 4 #[true, true, false, true, true, false, true, true, false, false] ((a.put (some 8) (.pointer (some ⟨B6, 0, none⟩))).put (some 9) (.pointer (some ⟨B7, 0, none⟩))) W := fun B6 B7 W hb r6 r7 l6 l7 n6_7 => by
    refine wpAnyH_ready (rs := [2]) (by kernel_rfl) (by simp) ?_
    refine AllReadyH.call (d := 18) (f := 33) (args := #[x2_0, x2_1]) (OP := .call { callee := .value (.func 33), args := #[.tmp 16, .tmp 17], argTypes := #[29, 9] }) (T := 70) rfl rfl rfl rfl (by rfl) (by have h0 := e2_0; have h1 := e2_1; simp [Act.eval, go_sem] at h0 h1; simp [execOp, resolve, invoke, go_sem, h0, h1]) ?_ ?_
    · refine (c2 W hb).mono ?_
      rintro e w' ⟨v2, rfl, g2, b'⟩
      have hb' := hb.trans (b'.mono hb.size)
      refine ⟨_, rfl, hS _ hb', ?_⟩
      rw [put_comm (show 9 ≠ 18 by decide), put_comm (show 8 ≠ 18 by decide)]
      exact h101_ v2 B6 B7 w' hb' g2 (zr _ _ _ _ r6 b') (zr _ _ _ _ r7 b') l6 l7 n6_7
    exact AllReadyH.nil
  have h1_ : ∀ (v2 : Value) (W : World), Below w0.heap.size w0 W → C2 v2 W → wpAnyH Try.prog .any ops_regC Q S 5 #[true, true, true, true, true, false, false, false, false, false] (a.put (some 18) v2) W := fun v2 W hb g2 => by
    refine wpAnyH_ready (rs := [5, 6, 7]) (by kernel_rfl) (by simp) ?_
    refine AllReadyH.call (d := 21) (f := 33) (args := #[x5_0, x5_1]) (OP := .call { callee := .value (.func 33), args := #[.tmp 19, .tmp 20], argTypes := #[29, 9] }) (T := 70) rfl rfl rfl rfl (by rfl) (by have h0 := e5_0; have h1 := e5_1; simp [Act.eval, go_sem] at h0 h1; simp [execOp, resolve, invoke, go_sem, h0, h1]) ?_ ?_
    · refine (c5 W hb).mono ?_
      rintro e w' ⟨v5, rfl, g5, b'⟩
      have hb' := hb.trans (b'.mono hb.size)
      refine ⟨_, rfl, hS _ hb', ?_⟩
      exact h2_ v2 v5 w' hb' (p2 _ _ _ g2 b') g5
    refine AllReadyH.turn (d := 8) (OP := .alloc 70) (T := 0) (v := .pointer (some ⟨W.heap.size, 0, none⟩)) (w' := W.alloc (.cells #[.pointer none, .pointer none, .int .i64 0, .bool false] 70)) rfl rfl rfl rfl (by rfl) (by go_simp <;> rfl) (hS _ (hb.trans ((za W).mono hb.size))) ?_ ?_
    · exact h10_ v2 W.heap.size _ (hb.trans ((za W).mono hb.size)) (p2 _ _ _ g2 (za W)) (heap_alloc_new W _) hb.size
    refine AllReadyH.turn (d := 9) (OP := .alloc 70) (T := 0) (v := .pointer (some ⟨W.heap.size, 0, none⟩)) (w' := W.alloc (.cells #[.pointer none, .pointer none, .int .i64 0, .bool false] 70)) rfl rfl rfl rfl (by rfl) (by go_simp <;> rfl) (hS _ (hb.trans ((za W).mono hb.size))) ?_ ?_
    · exact h11_ v2 W.heap.size _ (hb.trans ((za W).mono hb.size)) (p2 _ _ _ g2 (za W)) (heap_alloc_new W _) hb.size
    exact AllReadyH.nil
  have h00_ : ∀ (B6 : Nat) (W : World), Below w0.heap.size w0 W → W.heap[B6]? = some (.cells #[.pointer none, .pointer none, .int .i64 0, .bool false] 70) → w0.heap.size ≤ B6 → wpAnyH Try.prog .any ops_regC Q S 5 #[true, true, false, true, true, false, true, false, false, false] (a.put (some 8) (.pointer (some ⟨B6, 0, none⟩))) W := fun B6 W hb r6 l6 => by
    refine wpAnyH_ready (rs := [2, 7]) (by kernel_rfl) (by simp) ?_
    refine AllReadyH.call (d := 18) (f := 33) (args := #[x2_0, x2_1]) (OP := .call { callee := .value (.func 33), args := #[.tmp 16, .tmp 17], argTypes := #[29, 9] }) (T := 70) rfl rfl rfl rfl (by rfl) (by have h0 := e2_0; have h1 := e2_1; simp [Act.eval, go_sem] at h0 h1; simp [execOp, resolve, invoke, go_sem, h0, h1]) ?_ ?_
    · refine (c2 W hb).mono ?_
      rintro e w' ⟨v2, rfl, g2, b'⟩
      have hb' := hb.trans (b'.mono hb.size)
      refine ⟨_, rfl, hS _ hb', ?_⟩
      rw [put_comm (show 8 ≠ 18 by decide)]
      exact h10_ v2 B6 w' hb' g2 (zr _ _ _ _ r6 b') l6
    refine AllReadyH.turn (d := 9) (OP := .alloc 70) (T := 0) (v := .pointer (some ⟨W.heap.size, 0, none⟩)) (w' := W.alloc (.cells #[.pointer none, .pointer none, .int .i64 0, .bool false] 70)) rfl rfl rfl rfl (by rfl) (by go_simp <;> rfl) (hS _ (hb.trans ((za W).mono hb.size))) ?_ ?_
    · exact h001_ B6 W.heap.size _ (hb.trans ((za W).mono hb.size)) (zr _ _ _ _ r6 (za W)) (heap_alloc_new W _) l6 hb.size (fun e => by have := zl _ _ _ r6; omega)
    exact AllReadyH.nil
  have h01_ : ∀ (B7 : Nat) (W : World), Below w0.heap.size w0 W → W.heap[B7]? = some (.cells #[.pointer none, .pointer none, .int .i64 0, .bool false] 70) → w0.heap.size ≤ B7 → wpAnyH Try.prog .any ops_regC Q S 5 #[true, true, false, true, true, false, false, true, false, false] (a.put (some 9) (.pointer (some ⟨B7, 0, none⟩))) W := fun B7 W hb r7 l7 => by
    refine wpAnyH_ready (rs := [2, 6]) (by kernel_rfl) (by simp) ?_
    refine AllReadyH.call (d := 18) (f := 33) (args := #[x2_0, x2_1]) (OP := .call { callee := .value (.func 33), args := #[.tmp 16, .tmp 17], argTypes := #[29, 9] }) (T := 70) rfl rfl rfl rfl (by rfl) (by have h0 := e2_0; have h1 := e2_1; simp [Act.eval, go_sem] at h0 h1; simp [execOp, resolve, invoke, go_sem, h0, h1]) ?_ ?_
    · refine (c2 W hb).mono ?_
      rintro e w' ⟨v2, rfl, g2, b'⟩
      have hb' := hb.trans (b'.mono hb.size)
      refine ⟨_, rfl, hS _ hb', ?_⟩
      rw [put_comm (show 9 ≠ 18 by decide)]
      exact h11_ v2 B7 w' hb' g2 (zr _ _ _ _ r7 b') l7
    refine AllReadyH.turn (d := 8) (OP := .alloc 70) (T := 0) (v := .pointer (some ⟨W.heap.size, 0, none⟩)) (w' := W.alloc (.cells #[.pointer none, .pointer none, .int .i64 0, .bool false] 70)) rfl rfl rfl rfl (by rfl) (by go_simp <;> rfl) (hS _ (hb.trans ((za W).mono hb.size))) ?_ ?_
    · rw [put_comm (show 9 ≠ 8 by decide)]
      exact h001_ W.heap.size B7 _ (hb.trans ((za W).mono hb.size)) (heap_alloc_new W _) (zr _ _ _ _ r7 (za W)) hb.size l7 (fun e => by have := zl _ _ _ r7; omega)
    exact AllReadyH.nil
  have h0_ : ∀ (W : World), Below w0.heap.size w0 W → wpAnyH Try.prog .any ops_regC Q S 6 #[true, true, false, true, true, false, false, false, false, false] a W := fun  W hb => by
    refine wpAnyH_ready (rs := [2, 6, 7]) (by kernel_rfl) (by simp) ?_
    refine AllReadyH.call (d := 18) (f := 33) (args := #[x2_0, x2_1]) (OP := .call { callee := .value (.func 33), args := #[.tmp 16, .tmp 17], argTypes := #[29, 9] }) (T := 70) rfl rfl rfl rfl (by rfl) (by have h0 := e2_0; have h1 := e2_1; simp [Act.eval, go_sem] at h0 h1; simp [execOp, resolve, invoke, go_sem, h0, h1]) ?_ ?_
    · refine (c2 W hb).mono ?_
      rintro e w' ⟨v2, rfl, g2, b'⟩
      have hb' := hb.trans (b'.mono hb.size)
      refine ⟨_, rfl, hS _ hb', ?_⟩
      exact h1_ v2 w' hb' g2
    refine AllReadyH.turn (d := 8) (OP := .alloc 70) (T := 0) (v := .pointer (some ⟨W.heap.size, 0, none⟩)) (w' := W.alloc (.cells #[.pointer none, .pointer none, .int .i64 0, .bool false] 70)) rfl rfl rfl rfl (by rfl) (by go_simp <;> rfl) (hS _ (hb.trans ((za W).mono hb.size))) ?_ ?_
    · exact h00_ W.heap.size _ (hb.trans ((za W).mono hb.size)) (heap_alloc_new W _) hb.size
    refine AllReadyH.turn (d := 9) (OP := .alloc 70) (T := 0) (v := .pointer (some ⟨W.heap.size, 0, none⟩)) (w' := W.alloc (.cells #[.pointer none, .pointer none, .int .i64 0, .bool false] 70)) rfl rfl rfl rfl (by rfl) (by go_simp <;> rfl) (hS _ (hb.trans ((za W).mono hb.size))) ?_ ?_
    · exact h01_ W.heap.size _ (hb.trans ((za W).mono hb.size)) (heap_alloc_new W _) hb.size
    exact AllReadyH.nil
  exact h0_ W hW
end Go.Proofs.Ytckkoigghkgfdaa
namespace Go.Proofs.Ytckkoigghkgfdaa
open Go.RowKit Go.Shelf
set_option linter.unusedSimpArgs false

/-- The region's operations. -/
def ops_regT : Array Oper := #[{ dst := some 44, op := Go.Op.load 29 (Go.Operand.tmp 6), type := 29, pos := "law.go:208", after := #[], guard := none }, { dst := some 45, op := Go.Op.move (Go.Operand.tmp 9), type := 22, pos := "law.go:208", after := #[], guard := none }, { dst := some 46, op := Go.Op.move (Go.Operand.tmp 11), type := 3, pos := "law.go:208", after := #[], guard := none }, { dst := some 47, op := Go.Op.indexAddr 22 (Go.Operand.tmp 45) (Go.Operand.tmp 46), type := 0, pos := "law.go:208", after := #[{ on := 1, ground := Go.Ground.data }, { on := 2, ground := Go.Ground.data }], guard := none }, { dst := some 48, op := Go.Op.load 9 (Go.Operand.tmp 47), type := 9, pos := "law.go:208", after := #[{ on := 3, ground := Go.Ground.data }], guard := none }, { dst := some 49, op := Go.Op.call { callee := Go.Callee.value (Go.Operand.func 12), args := #[Go.Operand.tmp 44, Go.Operand.tmp 48], argTypes := #[29, 9] }, type := 38, pos := "law.go:208", after := #[{ on := 0, ground := Go.Ground.data }, { on := 4, ground := Go.Ground.data }], guard := none }, { dst := some 50, op := Go.Op.load 29 (Go.Operand.tmp 7), type := 29, pos := "law.go:208", after := #[], guard := none }, { dst := some 51, op := Go.Op.move (Go.Operand.tmp 9), type := 22, pos := "law.go:208", after := #[], guard := none }, { dst := some 52, op := Go.Op.move (Go.Operand.tmp 11), type := 3, pos := "law.go:208", after := #[], guard := none }, { dst := some 53, op := Go.Op.indexAddr 22 (Go.Operand.tmp 51) (Go.Operand.tmp 52), type := 0, pos := "law.go:208", after := #[{ on := 7, ground := Go.Ground.data }, { on := 8, ground := Go.Ground.data }], guard := none }, { dst := some 54, op := Go.Op.load 9 (Go.Operand.tmp 53), type := 9, pos := "law.go:208", after := #[{ on := 9, ground := Go.Ground.data }], guard := none }, { dst := some 55, op := Go.Op.call { callee := Go.Callee.value (Go.Operand.func 12), args := #[Go.Operand.tmp 50, Go.Operand.tmp 54], argTypes := #[29, 9] }, type := 38, pos := "law.go:208", after := #[{ on := 6, ground := Go.Ground.data }, { on := 10, ground := Go.Ground.data }, { on := 5, ground := Go.Ground.chain }], guard := none }, { dst := some 12, op := Go.Op.alloc 38, type := 0, pos := "law.go:208", after := #[], guard := none }, { dst := some 13, op := Go.Op.alloc 38, type := 0, pos := "law.go:208", after := #[], guard := none }, { dst := none, op := Go.Op.store 38 (Go.Operand.tmp 12) (Go.Operand.tmp 49), type := 0, pos := "law.go:208", after := #[{ on := 12, ground := Go.Ground.data }, { on := 5, ground := Go.Ground.data }, { on := 11, ground := Go.Ground.chain }, { on := 0, ground := Go.Ground.phase }, { on := 1, ground := Go.Ground.phase }, { on := 2, ground := Go.Ground.phase }, { on := 3, ground := Go.Ground.phase }, { on := 4, ground := Go.Ground.phase }, { on := 5, ground := Go.Ground.phase }, { on := 6, ground := Go.Ground.textOnly Go.Departure.lateStores }, { on := 7, ground := Go.Ground.textOnly Go.Departure.lateStores }, { on := 8, ground := Go.Ground.textOnly Go.Departure.lateStores }, { on := 9, ground := Go.Ground.textOnly Go.Departure.lateStores }, { on := 10, ground := Go.Ground.textOnly Go.Departure.lateStores }, { on := 11, ground := Go.Ground.textOnly Go.Departure.lateStoresUnsure }, { on := 12, ground := Go.Ground.phase }, { on := 13, ground := Go.Ground.phase }], guard := none }, { dst := none, op := Go.Op.store 38 (Go.Operand.tmp 13) (Go.Operand.tmp 55), type := 0, pos := "law.go:208", after := #[{ on := 13, ground := Go.Ground.data }, { on := 11, ground := Go.Ground.data }, { on := 14, ground := Go.Ground.chain }, { on := 0, ground := Go.Ground.phase }, { on := 1, ground := Go.Ground.phase }, { on := 2, ground := Go.Ground.phase }, { on := 3, ground := Go.Ground.phase }, { on := 4, ground := Go.Ground.phase }, { on := 5, ground := Go.Ground.phase }, { on := 6, ground := Go.Ground.phase }, { on := 7, ground := Go.Ground.phase }, { on := 8, ground := Go.Ground.phase }, { on := 9, ground := Go.Ground.phase }, { on := 10, ground := Go.Ground.phase }, { on := 11, ground := Go.Ground.phase }, { on := 12, ground := Go.Ground.phase }, { on := 13, ground := Go.Ground.phase }, { on := 14, ground := Go.Ground.phase }], guard := none }]
set_option maxHeartbeats 4000000 in
theorem regT_any {Q : Exit → Act → World → Prop} {S : World → Prop} {a : Act} {w0 : World} {x5_0 x5_1 x11_0 x11_1 : Value} {C5 C11 : Value → World → Prop}
    (e5_0 : a.eval (.tmp 44) = x5_0) (e5_1 : a.eval (.tmp 48) = x5_1) (e11_0 : a.eval (.tmp 50) = x11_0) (e11_1 : a.eval (.tmp 54) = x11_1)
    (hS : ∀ W, Below w0.heap.size w0 W → S W)
    (c5 : ∀ W, Below w0.heap.size w0 W → Calls Try.prog 12 #[x5_0, x5_1] W fun e w' => ∃ v, e = .returned v ∧ C5 v w' ∧ Below W.heap.size W w')
    (c11 : ∀ W, Below w0.heap.size w0 W → Calls Try.prog 12 #[x11_0, x11_1] W fun e w' => ∃ v, e = .returned v ∧ C11 v w' ∧ Below W.heap.size W w')
    (p5 : ∀ v W W', C5 v W → Below W.heap.size W W' → C5 v W') (p11 : ∀ v W W', C11 v W → Below W.heap.size W W' → C11 v W')
    (fin : ∀ (v5 : Value) (v11 : Value) (B12 : Nat) (B13 : Nat) (W : World), Below w0.heap.size w0 W → C5 v5 W → C11 v11 W → W.heap[B12]? = some (.cells #[.int .i64 0, .bool false] 38) → W.heap[B13]? = some (.cells #[.int .i64 0, .bool false] 38) → w0.heap.size ≤ B12 → w0.heap.size ≤ B13 → B12 ≠ B13 → wpAnyH Try.prog .any ops_regT Q S 2 #[true, true, true, true, true, true, true, true, true, true, true, true, true, true, false, false] ((((a.put (some 49) v5).put (some 55) v11).put (some 12) (.pointer (some ⟨B12, 0, none⟩))).put (some 13) (.pointer (some ⟨B13, 0, none⟩))) W) (W : World) (hW : Below w0.heap.size w0 W) :
    wpAnyH Try.prog .any ops_regT Q S 6 #[true, true, true, true, true, false, true, true, true, true, true, false, false, false, false, false] a W := by
  have zr : ∀ (W W' : World) (B : Nat) (o : Obj), W.heap[B]? = some o → Below W.heap.size W W' → W'.heap[B]? = some o := fun W W' B o h hb => (hb.block _ (Array.getElem?_eq_some_iff.1 h).1).trans h
  have zl : ∀ (W : World) (B : Nat) (o : Obj), W.heap[B]? = some o → B < W.heap.size := fun W B o h => (Array.getElem?_eq_some_iff.1 h).1
  have za : ∀ W : World, Below W.heap.size W (W.alloc (.cells #[.int .i64 0, .bool false] 38)) := fun W => (Below.refl _ W).alloc (Nat.le_refl _) _
  have h20_ : ∀ (v5 : Value) (v11 : Value) (B12 : Nat) (W : World), Below w0.heap.size w0 W → C5 v5 W → C11 v11 W → W.heap[B12]? = some (.cells #[.int .i64 0, .bool false] 38) → w0.heap.size ≤ B12 → wpAnyH Try.prog .any ops_regT Q S 3 #[true, true, true, true, true, true, true, true, true, true, true, true, true, false, false, false] (((a.put (some 49) v5).put (some 55) v11).put (some 12) (.pointer (some ⟨B12, 0, none⟩))) W := fun v5 v11 B12 W hb g5 g11 r12 l12 => by
    refine wpAnyH_ready (rs := [13]) (by kernel_rfl) (by simp) ?_
    refine AllReadyH.turn (d := 13) (OP := .alloc 38) (T := 0) (v := .pointer (some ⟨W.heap.size, 0, none⟩)) (w' := W.alloc (.cells #[.int .i64 0, .bool false] 38)) rfl rfl rfl rfl (by rfl) (by go_simp <;> rfl) (hS _ (hb.trans ((za W).mono hb.size))) ?_ ?_
    · exact fin v5 v11 B12 W.heap.size _ (hb.trans ((za W).mono hb.size)) (p5 _ _ _ g5 (za W)) (p11 _ _ _ g11 (za W)) (zr _ _ _ _ r12 (za W)) (heap_alloc_new W _) l12 hb.size (fun e => by have := zl _ _ _ r12; omega)
    exact AllReadyH.nil
  have h21_ : ∀ (v5 : Value) (v11 : Value) (B13 : Nat) (W : World), Below w0.heap.size w0 W → C5 v5 W → C11 v11 W → W.heap[B13]? = some (.cells #[.int .i64 0, .bool false] 38) → w0.heap.size ≤ B13 → wpAnyH Try.prog .any ops_regT Q S 3 #[true, true, true, true, true, true, true, true, true, true, true, true, false, true, false, false] (((a.put (some 49) v5).put (some 55) v11).put (some 13) (.pointer (some ⟨B13, 0, none⟩))) W := fun v5 v11 B13 W hb g5 g11 r13 l13 => by
    refine wpAnyH_ready (rs := [12]) (by kernel_rfl) (by simp) ?_
    refine AllReadyH.turn (d := 12) (OP := .alloc 38) (T := 0) (v := .pointer (some ⟨W.heap.size, 0, none⟩)) (w' := W.alloc (.cells #[.int .i64 0, .bool false] 38)) rfl rfl rfl rfl (by rfl) (by go_simp <;> rfl) (hS _ (hb.trans ((za W).mono hb.size))) ?_ ?_
    · rw [put_comm (show 13 ≠ 12 by decide)]
      exact fin v5 v11 W.heap.size B13 _ (hb.trans ((za W).mono hb.size)) (p5 _ _ _ g5 (za W)) (p11 _ _ _ g11 (za W)) (heap_alloc_new W _) (zr _ _ _ _ r13 (za W)) hb.size l13 (fun e => by have := zl _ _ _ r13; omega)
    exact AllReadyH.nil
  have h101_ : ∀ (v5 : Value) (B12 : Nat) (B13 : Nat) (W : World), Below w0.heap.size w0 W → C5 v5 W → W.heap[B12]? = some (.cells #[.int .i64 0, .bool false] 38) → W.heap[B13]? = some (.cells #[.int .i64 0, .bool false] 38) → w0.heap.size ≤ B12 → w0.heap.size ≤ B13 → B12 ≠ B13 → wpAnyH Try.prog .any ops_regT Q S 3 #[true, true, true, true, true, true, true, true, true, true, true, false, true, true, false, false] (((a.put (some 49) v5).put (some 12) (.pointer (some ⟨B12, 0, none⟩))).put (some 13) (.pointer (some ⟨B13, 0, none⟩))) W := fun v5 B12 B13 W hb g5 r12 r13 l12 l13 n12_13 => by
    refine wpAnyH_ready (rs := [11]) (by kernel_rfl) (by simp) ?_
    refine AllReadyH.call (d := 55) (f := 12) (args := #[x11_0, x11_1]) (OP := .call { callee := .value (.func 12), args := #[.tmp 50, .tmp 54], argTypes := #[29, 9] }) (T := 38) rfl rfl rfl rfl (by rfl) (by have h0 := e11_0; have h1 := e11_1; simp [Act.eval, go_sem] at h0 h1; simp [execOp, resolve, invoke, go_sem, h0, h1]) ?_ ?_
    · refine (c11 W hb).mono ?_
      rintro e w' ⟨v11, rfl, g11, b'⟩
      have hb' := hb.trans (b'.mono hb.size)
      refine ⟨_, rfl, hS _ hb', ?_⟩
      rw [put_comm (show 13 ≠ 55 by decide), put_comm (show 12 ≠ 55 by decide)]
      exact fin v5 v11 B12 B13 w' hb' (p5 _ _ _ g5 b') g11 (zr _ _ _ _ r12 b') (zr _ _ _ _ r13 b') l12 l13 n12_13
    exact AllReadyH.nil
  have h2_ : ∀ (v5 : Value) (v11 : Value) (W : World), Below w0.heap.size w0 W → C5 v5 W → C11 v11 W → wpAnyH Try.prog .any ops_regT Q S 4 #[true, true, true, true, true, true, true, true, true, true, true, true, false, false, false, false] ((a.put (some 49) v5).put (some 55) v11) W := fun v5 v11 W hb g5 g11 => by
    refine wpAnyH_ready (rs := [12, 13]) (by kernel_rfl) (by simp) ?_
    refine AllReadyH.turn (d := 12) (OP := .alloc 38) (T := 0) (v := .pointer (some ⟨W.heap.size, 0, none⟩)) (w' := W.alloc (.cells #[.int .i64 0, .bool false] 38)) rfl rfl rfl rfl (by rfl) (by go_simp <;> rfl) (hS _ (hb.trans ((za W).mono hb.size))) ?_ ?_
    · exact h20_ v5 v11 W.heap.size _ (hb.trans ((za W).mono hb.size)) (p5 _ _ _ g5 (za W)) (p11 _ _ _ g11 (za W)) (heap_alloc_new W _) hb.size
    refine AllReadyH.turn (d := 13) (OP := .alloc 38) (T := 0) (v := .pointer (some ⟨W.heap.size, 0, none⟩)) (w' := W.alloc (.cells #[.int .i64 0, .bool false] 38)) rfl rfl rfl rfl (by rfl) (by go_simp <;> rfl) (hS _ (hb.trans ((za W).mono hb.size))) ?_ ?_
    · exact h21_ v5 v11 W.heap.size _ (hb.trans ((za W).mono hb.size)) (p5 _ _ _ g5 (za W)) (p11 _ _ _ g11 (za W)) (heap_alloc_new W _) hb.size
    exact AllReadyH.nil
  have h10_ : ∀ (v5 : Value) (B12 : Nat) (W : World), Below w0.heap.size w0 W → C5 v5 W → W.heap[B12]? = some (.cells #[.int .i64 0, .bool false] 38) → w0.heap.size ≤ B12 → wpAnyH Try.prog .any ops_regT Q S 4 #[true, true, true, true, true, true, true, true, true, true, true, false, true, false, false, false] ((a.put (some 49) v5).put (some 12) (.pointer (some ⟨B12, 0, none⟩))) W := fun v5 B12 W hb g5 r12 l12 => by
    refine wpAnyH_ready (rs := [11, 13]) (by kernel_rfl) (by simp) ?_
    refine AllReadyH.call (d := 55) (f := 12) (args := #[x11_0, x11_1]) (OP := .call { callee := .value (.func 12), args := #[.tmp 50, .tmp 54], argTypes := #[29, 9] }) (T := 38) rfl rfl rfl rfl (by rfl) (by have h0 := e11_0; have h1 := e11_1; simp [Act.eval, go_sem] at h0 h1; simp [execOp, resolve, invoke, go_sem, h0, h1]) ?_ ?_
    · refine (c11 W hb).mono ?_
      rintro e w' ⟨v11, rfl, g11, b'⟩
      have hb' := hb.trans (b'.mono hb.size)
      refine ⟨_, rfl, hS _ hb', ?_⟩
      rw [put_comm (show 12 ≠ 55 by decide)]
      exact h20_ v5 v11 B12 w' hb' (p5 _ _ _ g5 b') g11 (zr _ _ _ _ r12 b') l12
    refine AllReadyH.turn (d := 13) (OP := .alloc 38) (T := 0) (v := .pointer (some ⟨W.heap.size, 0, none⟩)) (w' := W.alloc (.cells #[.int .i64 0, .bool false] 38)) rfl rfl rfl rfl (by rfl) (by go_simp <;> rfl) (hS _ (hb.trans ((za W).mono hb.size))) ?_ ?_
    · exact h101_ v5 B12 W.heap.size _ (hb.trans ((za W).mono hb.size)) (p5 _ _ _ g5 (za W)) (zr _ _ _ _ r12 (za W)) (heap_alloc_new W _) l12 hb.size (fun e => by have := zl _ _ _ r12; omega)
    exact AllReadyH.nil
  have h11_ : ∀ (v5 : Value) (B13 : Nat) (W : World), Below w0.heap.size w0 W → C5 v5 W → W.heap[B13]? = some (.cells #[.int .i64 0, .bool false] 38) → w0.heap.size ≤ B13 → wpAnyH Try.prog .any ops_regT Q S 4 #[true, true, true, true, true, true, true, true, true, true, true, false, false, true, false, false] ((a.put (some 49) v5).put (some 13) (.pointer (some ⟨B13, 0, none⟩))) W := fun v5 B13 W hb g5 r13 l13 => by
    refine wpAnyH_ready (rs := [11, 12]) (by kernel_rfl) (by simp) ?_
    refine AllReadyH.call (d := 55) (f := 12) (args := #[x11_0, x11_1]) (OP := .call { callee := .value (.func 12), args := #[.tmp 50, .tmp 54], argTypes := #[29, 9] }) (T := 38) rfl rfl rfl rfl (by rfl) (by have h0 := e11_0; have h1 := e11_1; simp [Act.eval, go_sem] at h0 h1; simp [execOp, resolve, invoke, go_sem, h0, h1]) ?_ ?_
    · refine (c11 W hb).mono ?_
      rintro e w' ⟨v11, rfl, g11, b'⟩
      have hb' := hb.trans (b'.mono hb.size)
      refine ⟨_, rfl, hS _ hb', ?_⟩
      rw [put_comm (show 13 ≠ 55 by decide)]
      exact h21_ v5 v11 B13 w' hb' (p5 _ _ _ g5 b') g11 (zr _ _ _ _ r13 b') l13
    refine AllReadyH.turn (d := 12) (OP := .alloc 38) (T := 0) (v := .pointer (some ⟨W.heap.size, 0, none⟩)) (w' := W.alloc (.cells #[.int .i64 0, .bool false] 38)) rfl rfl rfl rfl (by rfl) (by go_simp <;> rfl) (hS _ (hb.trans ((za W).mono hb.size))) ?_ ?_
    · rw [put_comm (show 13 ≠ 12 by decide)]
      exact h101_ v5 W.heap.size B13 _ (hb.trans ((za W).mono hb.size)) (p5 _ _ _ g5 (za W)) (heap_alloc_new W _) (zr _ _ _ _ r13 (za W)) hb.size l13 (fun e => by have := zl _ _ _ r13; omega)
    exact AllReadyH.nil
  have h001_ : ∀ (B12 : Nat) (B13 : Nat) (W : World), Below w0.heap.size w0 W → W.heap[B12]? = some (.cells #[.int .i64 0, .bool false] 38) → W.heap[B13]? = some (.cells #[.int .i64 0, .bool false] 38) → w0.heap.size ≤ B12 → w0.heap.size ≤ B13 → B12 ≠ B13 → wpAnyH Try.prog .any ops_regT Q S 4 #[true, true, true, true, true, false, true, true, true, true, true, false, true, true, false, false] ((a.put (some 12) (.pointer (some ⟨B12, 0, none⟩))).put (some 13) (.pointer (some ⟨B13, 0, none⟩))) W := fun B12 B13 W hb r12 r13 l12 l13 n12_13 => by
    refine wpAnyH_ready (rs := [5]) (by kernel_rfl) (by simp) ?_
    refine AllReadyH.call (d := 49) (f := 12) (args := #[x5_0, x5_1]) (OP := .call { callee := .value (.func 12), args := #[.tmp 44, .tmp 48], argTypes := #[29, 9] }) (T := 38) rfl rfl rfl rfl (by rfl) (by have h0 := e5_0; have h1 := e5_1; simp [Act.eval, go_sem] at h0 h1; simp [execOp, resolve, invoke, go_sem, h0, h1]) ?_ ?_
    · refine (c5 W hb).mono ?_
      rintro e w' ⟨v5, rfl, g5, b'⟩
      have hb' := hb.trans (b'.mono hb.size)
      refine ⟨_, rfl, hS _ hb', ?_⟩
      rw [put_comm (show 13 ≠ 49 by decide), put_comm (show 12 ≠ 49 by decide)]
      exact h101_ v5 B12 B13 w' hb' g5 (zr _ _ _ _ r12 b') (zr _ _ _ _ r13 b') l12 l13 n12_13
    exact AllReadyH.nil
  have h1_ : ∀ (v5 : Value) (W : World), Below w0.heap.size w0 W → C5 v5 W → wpAnyH Try.prog .any ops_regT Q S 5 #[true, true, true, true, true, true, true, true, true, true, true, false, false, false, false, false] (a.put (some 49) v5) W := fun v5 W hb g5 => by
    refine wpAnyH_ready (rs := [11, 12, 13]) (by kernel_rfl) (by simp) ?_
    refine AllReadyH.call (d := 55) (f := 12) (args := #[x11_0, x11_1]) (OP := .call { callee := .value (.func 12), args := #[.tmp 50, .tmp 54], argTypes := #[29, 9] }) (T := 38) rfl rfl rfl rfl (by rfl) (by have h0 := e11_0; have h1 := e11_1; simp [Act.eval, go_sem] at h0 h1; simp [execOp, resolve, invoke, go_sem, h0, h1]) ?_ ?_
    · refine (c11 W hb).mono ?_
      rintro e w' ⟨v11, rfl, g11, b'⟩
      have hb' := hb.trans (b'.mono hb.size)
      refine ⟨_, rfl, hS _ hb', ?_⟩
      exact h2_ v5 v11 w' hb' (p5 _ _ _ g5 b') g11
    refine AllReadyH.turn (d := 12) (OP := .alloc 38) (T := 0) (v := .pointer (some ⟨W.heap.size, 0, none⟩)) (w' := W.alloc (.cells #[.int .i64 0, .bool false] 38)) rfl rfl rfl rfl (by rfl) (by go_simp <;> rfl) (hS _ (hb.trans ((za W).mono hb.size))) ?_ ?_
    · exact h10_ v5 W.heap.size _ (hb.trans ((za W).mono hb.size)) (p5 _ _ _ g5 (za W)) (heap_alloc_new W _) hb.size
    refine AllReadyH.turn (d := 13) (OP := .alloc 38) (T := 0) (v := .pointer (some ⟨W.heap.size, 0, none⟩)) (w' := W.alloc (.cells #[.int .i64 0, .bool false] 38)) rfl rfl rfl rfl (by rfl) (by go_simp <;> rfl) (hS _ (hb.trans ((za W).mono hb.size))) ?_ ?_
    · exact h11_ v5 W.heap.size _ (hb.trans ((za W).mono hb.size)) (p5 _ _ _ g5 (za W)) (heap_alloc_new W _) hb.size
    exact AllReadyH.nil
  have h00_ : ∀ (B12 : Nat) (W : World), Below w0.heap.size w0 W → W.heap[B12]? = some (.cells #[.int .i64 0, .bool false] 38) → w0.heap.size ≤ B12 → wpAnyH Try.prog .any ops_regT Q S 5 #[true, true, true, true, true, false, true, true, true, true, true, false, true, false, false, false] (a.put (some 12) (.pointer (some ⟨B12, 0, none⟩))) W := fun B12 W hb r12 l12 => by
    refine wpAnyH_ready (rs := [5, 13]) (by kernel_rfl) (by simp) ?_
    refine AllReadyH.call (d := 49) (f := 12) (args := #[x5_0, x5_1]) (OP := .call { callee := .value (.func 12), args := #[.tmp 44, .tmp 48], argTypes := #[29, 9] }) (T := 38) rfl rfl rfl rfl (by rfl) (by have h0 := e5_0; have h1 := e5_1; simp [Act.eval, go_sem] at h0 h1; simp [execOp, resolve, invoke, go_sem, h0, h1]) ?_ ?_
    · refine (c5 W hb).mono ?_
      rintro e w' ⟨v5, rfl, g5, b'⟩
      have hb' := hb.trans (b'.mono hb.size)
      refine ⟨_, rfl, hS _ hb', ?_⟩
      rw [put_comm (show 12 ≠ 49 by decide)]
      exact h10_ v5 B12 w' hb' g5 (zr _ _ _ _ r12 b') l12
    refine AllReadyH.turn (d := 13) (OP := .alloc 38) (T := 0) (v := .pointer (some ⟨W.heap.size, 0, none⟩)) (w' := W.alloc (.cells #[.int .i64 0, .bool false] 38)) rfl rfl rfl rfl (by rfl) (by go_simp <;> rfl) (hS _ (hb.trans ((za W).mono hb.size))) ?_ ?_
    · exact h001_ B12 W.heap.size _ (hb.trans ((za W).mono hb.size)) (zr _ _ _ _ r12 (za W)) (heap_alloc_new W _) l12 hb.size (fun e => by have := zl _ _ _ r12; omega)
    exact AllReadyH.nil
  have h01_ : ∀ (B13 : Nat) (W : World), Below w0.heap.size w0 W → W.heap[B13]? = some (.cells #[.int .i64 0, .bool false] 38) → w0.heap.size ≤ B13 → wpAnyH Try.prog .any ops_regT Q S 5 #[true, true, true, true, true, false, true, true, true, true, true, false, false, true, false, false] (a.put (some 13) (.pointer (some ⟨B13, 0, none⟩))) W := fun B13 W hb r13 l13 => by
    refine wpAnyH_ready (rs := [5, 12]) (by kernel_rfl) (by simp) ?_
    refine AllReadyH.call (d := 49) (f := 12) (args := #[x5_0, x5_1]) (OP := .call { callee := .value (.func 12), args := #[.tmp 44, .tmp 48], argTypes := #[29, 9] }) (T := 38) rfl rfl rfl rfl (by rfl) (by have h0 := e5_0; have h1 := e5_1; simp [Act.eval, go_sem] at h0 h1; simp [execOp, resolve, invoke, go_sem, h0, h1]) ?_ ?_
    · refine (c5 W hb).mono ?_
      rintro e w' ⟨v5, rfl, g5, b'⟩
      have hb' := hb.trans (b'.mono hb.size)
      refine ⟨_, rfl, hS _ hb', ?_⟩
      rw [put_comm (show 13 ≠ 49 by decide)]
      exact h11_ v5 B13 w' hb' g5 (zr _ _ _ _ r13 b') l13
    refine AllReadyH.turn (d := 12) (OP := .alloc 38) (T := 0) (v := .pointer (some ⟨W.heap.size, 0, none⟩)) (w' := W.alloc (.cells #[.int .i64 0, .bool false] 38)) rfl rfl rfl rfl (by rfl) (by go_simp <;> rfl) (hS _ (hb.trans ((za W).mono hb.size))) ?_ ?_
    · rw [put_comm (show 13 ≠ 12 by decide)]
      exact h001_ W.heap.size B13 _ (hb.trans ((za W).mono hb.size)) (heap_alloc_new W _) (zr _ _ _ _ r13 (za W)) hb.size l13 (fun e => by have := zl _ _ _ r13; omega)
    exact AllReadyH.nil
  have h0_ : ∀ (W : World), Below w0.heap.size w0 W → wpAnyH Try.prog .any ops_regT Q S 6 #[true, true, true, true, true, false, true, true, true, true, true, false, false, false, false, false] a W := fun  W hb => by
    refine wpAnyH_ready (rs := [5, 12, 13]) (by kernel_rfl) (by simp) ?_
    refine AllReadyH.call (d := 49) (f := 12) (args := #[x5_0, x5_1]) (OP := .call { callee := .value (.func 12), args := #[.tmp 44, .tmp 48], argTypes := #[29, 9] }) (T := 38) rfl rfl rfl rfl (by rfl) (by have h0 := e5_0; have h1 := e5_1; simp [Act.eval, go_sem] at h0 h1; simp [execOp, resolve, invoke, go_sem, h0, h1]) ?_ ?_
    · refine (c5 W hb).mono ?_
      rintro e w' ⟨v5, rfl, g5, b'⟩
      have hb' := hb.trans (b'.mono hb.size)
      refine ⟨_, rfl, hS _ hb', ?_⟩
      exact h1_ v5 w' hb' g5
    refine AllReadyH.turn (d := 12) (OP := .alloc 38) (T := 0) (v := .pointer (some ⟨W.heap.size, 0, none⟩)) (w' := W.alloc (.cells #[.int .i64 0, .bool false] 38)) rfl rfl rfl rfl (by rfl) (by go_simp <;> rfl) (hS _ (hb.trans ((za W).mono hb.size))) ?_ ?_
    · exact h00_ W.heap.size _ (hb.trans ((za W).mono hb.size)) (heap_alloc_new W _) hb.size
    refine AllReadyH.turn (d := 13) (OP := .alloc 38) (T := 0) (v := .pointer (some ⟨W.heap.size, 0, none⟩)) (w' := W.alloc (.cells #[.int .i64 0, .bool false] 38)) rfl rfl rfl rfl (by rfl) (by go_simp <;> rfl) (hS _ (hb.trans ((za W).mono hb.size))) ?_ ?_
    · exact h01_ W.heap.size _ (hb.trans ((za W).mono hb.size)) (heap_alloc_new W _) hb.size
    exact AllReadyH.nil
  exact h0_ W hW
end Go.Proofs.Ytckkoigghkgfdaa
