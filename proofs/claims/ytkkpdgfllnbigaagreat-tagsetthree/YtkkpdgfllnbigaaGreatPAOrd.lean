/-
  walk: A REGION OF THE WALK'S CLOSURE: three calls in a row, the second knowing what the first answered.
-/
import Derived.Test.YtkkpdgfllnbigaaGreatMg14
namespace Go.Proofs.YtkkpdgfllnbigaaGreat.Pm
open Go.RowKit Go.Shelf
set_option linter.unusedSimpArgs false
set_option maxHeartbeats 4000000 in
theorem reg9_dep {Q : Exit → Act → World → Prop} {S : World → Prop} {a : Act} {w0 : World} {x2 x5 x8 k2 k5 k8 : Value} {C2 C8 : Value → World → Prop} {C5 : Value → Value → World → Prop}
    (e2 : a.eval (.tmp 40) = x2) (e2' : a.eval (.tmp 41) = k2) (e5 : a.eval (.tmp 43) = x5) (e5' : a.eval (.tmp 44) = k5) (e8 : a.eval (.tmp 46) = x8) (e8' : a.eval (.tmp 47) = k8)
    (hS : ∀ W, Below w0.heap.size w0 W → S W)
    (c2 : ∀ W, Below w0.heap.size w0 W → Calls Tryz.prog 225 #[x2, k2] W fun e w' => ∃ v, e = .returned v ∧ C2 v w' ∧ Below W.heap.size W w')
    (c5 : ∀ v2 W, C2 v2 W → Below w0.heap.size w0 W → Calls Tryz.prog 225 #[x5, k5] W fun e w' => ∃ v, e = .returned v ∧ C5 v2 v w' ∧ Below W.heap.size W w')
    (c8 : ∀ W, Below w0.heap.size w0 W → Calls Tryz.prog 225 #[x8, k8] W fun e w' => ∃ v, e = .returned v ∧ C8 v w' ∧ Below W.heap.size W w')
    (p2 : ∀ v W W', C2 v W → Below W.heap.size W W' → C2 v W') (p5 : ∀ v2 v W W', C5 v2 v W → Below W.heap.size W W' → C5 v2 v W') (p8 : ∀ v W W', C8 v W → Below W.heap.size W W' → C8 v W')
    (fin : ∀ (v2 : Value) (v5 : Value) (v8 : Value) (B9 : Nat) (B10 : Nat) (B11 : Nat) (W : World), Below w0.heap.size w0 W → C2 v2 W → C5 v2 v5 W → C8 v8 W → W.heap[B9]? = some (.cells #[.pointer none, .pointer none, .string ⟨#[]⟩, .bool false] 213) → W.heap[B10]? = some (.cells #[.pointer none, .pointer none, .string ⟨#[]⟩, .bool false] 213) → W.heap[B11]? = some (.cells #[.pointer none, .pointer none, .string ⟨#[]⟩, .bool false] 213) → w0.heap.size ≤ B9 → w0.heap.size ≤ B10 → w0.heap.size ≤ B11 → B9 ≠ B10 → B9 ≠ B11 → B10 ≠ B11 → wpAnyH Tryz.prog .any ops9 Q S 3 #[true, true, true, true, true, true, true, true, true, true, true, true, false, false, false] ((((((a.put (some 42) v2).put (some 45) v5).put (some 48) v8).put (some 11) (.pointer (some ⟨B9, 0, none⟩))).put (some 12) (.pointer (some ⟨B10, 0, none⟩))).put (some 13) (.pointer (some ⟨B11, 0, none⟩))) W) (W : World) (hW : Below w0.heap.size w0 W) :
    wpAnyH Tryz.prog .any ops9 Q S 9 #[true, true, false, true, true, false, true, true, false, false, false, false, false, false, false] a W := by
  have zr : ∀ (W W' : World) (B : Nat) (o : Obj), W.heap[B]? = some o → Below W.heap.size W W' → W'.heap[B]? = some o := fun W W' B o h hb => (hb.block _ (gI h).1).trans h
  have zl : ∀ (W : World) (B : Nat) (o : Obj), W.heap[B]? = some o → B < W.heap.size := fun W B o h => (gI h).1
  have za : ∀ W : World, Below W.heap.size W (W.alloc (.cells #[.pointer none, .pointer none, .string ⟨#[]⟩, .bool false] 213)) := fun W => (Below.refl _ W).alloc (Nat.le_refl _) _
  have h301_ : ∀ (v2 : Value) (v5 : Value) (v8 : Value) (B9 : Nat) (B10 : Nat) (W : World), Below w0.heap.size w0 W → C2 v2 W → C5 v2 v5 W → C8 v8 W → W.heap[B9]? = some (.cells #[.pointer none, .pointer none, .string ⟨#[]⟩, .bool false] 213) → W.heap[B10]? = some (.cells #[.pointer none, .pointer none, .string ⟨#[]⟩, .bool false] 213) → w0.heap.size ≤ B9 → w0.heap.size ≤ B10 → B9 ≠ B10 → wpAnyH Tryz.prog .any ops9 Q S 4 #[true, true, true, true, true, true, true, true, true, true, true, false, false, false, false] (((((a.put (some 42) v2).put (some 45) v5).put (some 48) v8).put (some 11) (.pointer (some ⟨B9, 0, none⟩))).put (some 12) (.pointer (some ⟨B10, 0, none⟩))) W := fun v2 v5 v8 B9 B10 W hb g2 g5 g8 r9 r10 l9 l10 n9_10 => by
    refine wpAnyH_ready (rs := [11]) (by kernel_rfl) (by simp) ?_
    refine AllReadyH.turn (d := 13) (OP := .alloc 213) (T := 0) (v := .pointer (some ⟨W.heap.size, 0, none⟩)) (w' := W.alloc (.cells #[.pointer none, .pointer none, .string ⟨#[]⟩, .bool false] 213)) rfl rfl rfl rfl (by rfl) (by go_simp <;> rfl) (hS _ (hb.trans ((za W).mono hb.size))) ?_ ?_
    · exact fin v2 v5 v8 B9 B10 W.heap.size _ (hb.trans ((za W).mono hb.size)) (p2 _ _ _ g2 (za W)) (p5 _ _ _ _ g5 (za W)) (p8 _ _ _ g8 (za W)) (zr _ _ _ _ r9 (za W)) (zr _ _ _ _ r10 (za W)) (heap_alloc_new W _) l9 l10 hb.size n9_10 (fun e => by have := zl _ _ _ r9; omega) (fun e => by have := zl _ _ _ r10; omega)
    exact AllReadyH.nil
  have h302_ : ∀ (v2 : Value) (v5 : Value) (v8 : Value) (B9 : Nat) (B11 : Nat) (W : World), Below w0.heap.size w0 W → C2 v2 W → C5 v2 v5 W → C8 v8 W → W.heap[B9]? = some (.cells #[.pointer none, .pointer none, .string ⟨#[]⟩, .bool false] 213) → W.heap[B11]? = some (.cells #[.pointer none, .pointer none, .string ⟨#[]⟩, .bool false] 213) → w0.heap.size ≤ B9 → w0.heap.size ≤ B11 → B9 ≠ B11 → wpAnyH Tryz.prog .any ops9 Q S 4 #[true, true, true, true, true, true, true, true, true, true, false, true, false, false, false] (((((a.put (some 42) v2).put (some 45) v5).put (some 48) v8).put (some 11) (.pointer (some ⟨B9, 0, none⟩))).put (some 13) (.pointer (some ⟨B11, 0, none⟩))) W := fun v2 v5 v8 B9 B11 W hb g2 g5 g8 r9 r11 l9 l11 n9_11 => by
    refine wpAnyH_ready (rs := [10]) (by kernel_rfl) (by simp) ?_
    refine AllReadyH.turn (d := 12) (OP := .alloc 213) (T := 0) (v := .pointer (some ⟨W.heap.size, 0, none⟩)) (w' := W.alloc (.cells #[.pointer none, .pointer none, .string ⟨#[]⟩, .bool false] 213)) rfl rfl rfl rfl (by rfl) (by go_simp <;> rfl) (hS _ (hb.trans ((za W).mono hb.size))) ?_ ?_
    · rw [put_comm (show 13 ≠ 12 by decide)]
      exact fin v2 v5 v8 B9 W.heap.size B11 _ (hb.trans ((za W).mono hb.size)) (p2 _ _ _ g2 (za W)) (p5 _ _ _ _ g5 (za W)) (p8 _ _ _ g8 (za W)) (zr _ _ _ _ r9 (za W)) (heap_alloc_new W _) (zr _ _ _ _ r11 (za W)) l9 hb.size l11 (fun e => by have := zl _ _ _ r9; omega) n9_11 (fun e => by have := zl _ _ _ r11; omega)
    exact AllReadyH.nil
  have h312_ : ∀ (v2 : Value) (v5 : Value) (v8 : Value) (B10 : Nat) (B11 : Nat) (W : World), Below w0.heap.size w0 W → C2 v2 W → C5 v2 v5 W → C8 v8 W → W.heap[B10]? = some (.cells #[.pointer none, .pointer none, .string ⟨#[]⟩, .bool false] 213) → W.heap[B11]? = some (.cells #[.pointer none, .pointer none, .string ⟨#[]⟩, .bool false] 213) → w0.heap.size ≤ B10 → w0.heap.size ≤ B11 → B10 ≠ B11 → wpAnyH Tryz.prog .any ops9 Q S 4 #[true, true, true, true, true, true, true, true, true, false, true, true, false, false, false] (((((a.put (some 42) v2).put (some 45) v5).put (some 48) v8).put (some 12) (.pointer (some ⟨B10, 0, none⟩))).put (some 13) (.pointer (some ⟨B11, 0, none⟩))) W := fun v2 v5 v8 B10 B11 W hb g2 g5 g8 r10 r11 l10 l11 n10_11 => by
    refine wpAnyH_ready (rs := [9]) (by kernel_rfl) (by simp) ?_
    refine AllReadyH.turn (d := 11) (OP := .alloc 213) (T := 0) (v := .pointer (some ⟨W.heap.size, 0, none⟩)) (w' := W.alloc (.cells #[.pointer none, .pointer none, .string ⟨#[]⟩, .bool false] 213)) rfl rfl rfl rfl (by rfl) (by go_simp <;> rfl) (hS _ (hb.trans ((za W).mono hb.size))) ?_ ?_
    · rw [put_comm (show 13 ≠ 11 by decide), put_comm (show 12 ≠ 11 by decide)]
      exact fin v2 v5 v8 W.heap.size B10 B11 _ (hb.trans ((za W).mono hb.size)) (p2 _ _ _ g2 (za W)) (p5 _ _ _ _ g5 (za W)) (p8 _ _ _ g8 (za W)) (heap_alloc_new W _) (zr _ _ _ _ r10 (za W)) (zr _ _ _ _ r11 (za W)) hb.size l10 l11 (fun e => by have := zl _ _ _ r10; omega) (fun e => by have := zl _ _ _ r11; omega) n10_11
    exact AllReadyH.nil
  have h2012_ : ∀ (v2 : Value) (v5 : Value) (B9 : Nat) (B10 : Nat) (B11 : Nat) (W : World), Below w0.heap.size w0 W → C2 v2 W → C5 v2 v5 W → W.heap[B9]? = some (.cells #[.pointer none, .pointer none, .string ⟨#[]⟩, .bool false] 213) → W.heap[B10]? = some (.cells #[.pointer none, .pointer none, .string ⟨#[]⟩, .bool false] 213) → W.heap[B11]? = some (.cells #[.pointer none, .pointer none, .string ⟨#[]⟩, .bool false] 213) → w0.heap.size ≤ B9 → w0.heap.size ≤ B10 → w0.heap.size ≤ B11 → B9 ≠ B10 → B9 ≠ B11 → B10 ≠ B11 → wpAnyH Tryz.prog .any ops9 Q S 4 #[true, true, true, true, true, true, true, true, false, true, true, true, false, false, false] (((((a.put (some 42) v2).put (some 45) v5).put (some 11) (.pointer (some ⟨B9, 0, none⟩))).put (some 12) (.pointer (some ⟨B10, 0, none⟩))).put (some 13) (.pointer (some ⟨B11, 0, none⟩))) W := fun v2 v5 B9 B10 B11 W hb g2 g5 r9 r10 r11 l9 l10 l11 n9_10 n9_11 n10_11 => by
    refine wpAnyH_ready (rs := [8]) (by kernel_rfl) (by simp) ?_
    refine AllReadyH.call (d := 48) (f := 225) (args := #[x8, k8]) (OP := .call { callee := .value (.func 225), args := #[.tmp 46, .tmp 47], argTypes := #[27, 9] }) (T := 213) rfl rfl rfl rfl (by rfl) (by have h1 := e8; have h2 := e8'; simp [Act.eval, go_sem] at h1 h2; simp [execOp, resolve, invoke, go_sem, h1, h2]) ?_ ?_
    · refine (c8 W hb).mono ?_
      rintro e w' ⟨v8, rfl, g8, b'⟩
      have hb' := hb.trans (b'.mono hb.size)
      refine ⟨_, rfl, hS _ hb', ?_⟩
      rw [put_comm (show 13 ≠ 48 by decide), put_comm (show 12 ≠ 48 by decide), put_comm (show 11 ≠ 48 by decide)]
      exact fin v2 v5 v8 B9 B10 B11 w' hb' (p2 _ _ _ g2 b') (p5 _ _ _ _ g5 b') g8 (zr _ _ _ _ r9 b') (zr _ _ _ _ r10 b') (zr _ _ _ _ r11 b') l9 l10 l11 n9_10 n9_11 n10_11
    exact AllReadyH.nil
  have h30_ : ∀ (v2 : Value) (v5 : Value) (v8 : Value) (B9 : Nat) (W : World), Below w0.heap.size w0 W → C2 v2 W → C5 v2 v5 W → C8 v8 W → W.heap[B9]? = some (.cells #[.pointer none, .pointer none, .string ⟨#[]⟩, .bool false] 213) → w0.heap.size ≤ B9 → wpAnyH Tryz.prog .any ops9 Q S 5 #[true, true, true, true, true, true, true, true, true, true, false, false, false, false, false] ((((a.put (some 42) v2).put (some 45) v5).put (some 48) v8).put (some 11) (.pointer (some ⟨B9, 0, none⟩))) W := fun v2 v5 v8 B9 W hb g2 g5 g8 r9 l9 => by
    refine wpAnyH_ready (rs := [10, 11]) (by kernel_rfl) (by simp) ?_
    refine AllReadyH.turn (d := 12) (OP := .alloc 213) (T := 0) (v := .pointer (some ⟨W.heap.size, 0, none⟩)) (w' := W.alloc (.cells #[.pointer none, .pointer none, .string ⟨#[]⟩, .bool false] 213)) rfl rfl rfl rfl (by rfl) (by go_simp <;> rfl) (hS _ (hb.trans ((za W).mono hb.size))) ?_ ?_
    · exact h301_ v2 v5 v8 B9 W.heap.size _ (hb.trans ((za W).mono hb.size)) (p2 _ _ _ g2 (za W)) (p5 _ _ _ _ g5 (za W)) (p8 _ _ _ g8 (za W)) (zr _ _ _ _ r9 (za W)) (heap_alloc_new W _) l9 hb.size (fun e => by have := zl _ _ _ r9; omega)
    refine AllReadyH.turn (d := 13) (OP := .alloc 213) (T := 0) (v := .pointer (some ⟨W.heap.size, 0, none⟩)) (w' := W.alloc (.cells #[.pointer none, .pointer none, .string ⟨#[]⟩, .bool false] 213)) rfl rfl rfl rfl (by rfl) (by go_simp <;> rfl) (hS _ (hb.trans ((za W).mono hb.size))) ?_ ?_
    · exact h302_ v2 v5 v8 B9 W.heap.size _ (hb.trans ((za W).mono hb.size)) (p2 _ _ _ g2 (za W)) (p5 _ _ _ _ g5 (za W)) (p8 _ _ _ g8 (za W)) (zr _ _ _ _ r9 (za W)) (heap_alloc_new W _) l9 hb.size (fun e => by have := zl _ _ _ r9; omega)
    exact AllReadyH.nil
  have h31_ : ∀ (v2 : Value) (v5 : Value) (v8 : Value) (B10 : Nat) (W : World), Below w0.heap.size w0 W → C2 v2 W → C5 v2 v5 W → C8 v8 W → W.heap[B10]? = some (.cells #[.pointer none, .pointer none, .string ⟨#[]⟩, .bool false] 213) → w0.heap.size ≤ B10 → wpAnyH Tryz.prog .any ops9 Q S 5 #[true, true, true, true, true, true, true, true, true, false, true, false, false, false, false] ((((a.put (some 42) v2).put (some 45) v5).put (some 48) v8).put (some 12) (.pointer (some ⟨B10, 0, none⟩))) W := fun v2 v5 v8 B10 W hb g2 g5 g8 r10 l10 => by
    refine wpAnyH_ready (rs := [9, 11]) (by kernel_rfl) (by simp) ?_
    refine AllReadyH.turn (d := 11) (OP := .alloc 213) (T := 0) (v := .pointer (some ⟨W.heap.size, 0, none⟩)) (w' := W.alloc (.cells #[.pointer none, .pointer none, .string ⟨#[]⟩, .bool false] 213)) rfl rfl rfl rfl (by rfl) (by go_simp <;> rfl) (hS _ (hb.trans ((za W).mono hb.size))) ?_ ?_
    · rw [put_comm (show 12 ≠ 11 by decide)]
      exact h301_ v2 v5 v8 W.heap.size B10 _ (hb.trans ((za W).mono hb.size)) (p2 _ _ _ g2 (za W)) (p5 _ _ _ _ g5 (za W)) (p8 _ _ _ g8 (za W)) (heap_alloc_new W _) (zr _ _ _ _ r10 (za W)) hb.size l10 (fun e => by have := zl _ _ _ r10; omega)
    refine AllReadyH.turn (d := 13) (OP := .alloc 213) (T := 0) (v := .pointer (some ⟨W.heap.size, 0, none⟩)) (w' := W.alloc (.cells #[.pointer none, .pointer none, .string ⟨#[]⟩, .bool false] 213)) rfl rfl rfl rfl (by rfl) (by go_simp <;> rfl) (hS _ (hb.trans ((za W).mono hb.size))) ?_ ?_
    · exact h312_ v2 v5 v8 B10 W.heap.size _ (hb.trans ((za W).mono hb.size)) (p2 _ _ _ g2 (za W)) (p5 _ _ _ _ g5 (za W)) (p8 _ _ _ g8 (za W)) (zr _ _ _ _ r10 (za W)) (heap_alloc_new W _) l10 hb.size (fun e => by have := zl _ _ _ r10; omega)
    exact AllReadyH.nil
  have h32_ : ∀ (v2 : Value) (v5 : Value) (v8 : Value) (B11 : Nat) (W : World), Below w0.heap.size w0 W → C2 v2 W → C5 v2 v5 W → C8 v8 W → W.heap[B11]? = some (.cells #[.pointer none, .pointer none, .string ⟨#[]⟩, .bool false] 213) → w0.heap.size ≤ B11 → wpAnyH Tryz.prog .any ops9 Q S 5 #[true, true, true, true, true, true, true, true, true, false, false, true, false, false, false] ((((a.put (some 42) v2).put (some 45) v5).put (some 48) v8).put (some 13) (.pointer (some ⟨B11, 0, none⟩))) W := fun v2 v5 v8 B11 W hb g2 g5 g8 r11 l11 => by
    refine wpAnyH_ready (rs := [9, 10]) (by kernel_rfl) (by simp) ?_
    refine AllReadyH.turn (d := 11) (OP := .alloc 213) (T := 0) (v := .pointer (some ⟨W.heap.size, 0, none⟩)) (w' := W.alloc (.cells #[.pointer none, .pointer none, .string ⟨#[]⟩, .bool false] 213)) rfl rfl rfl rfl (by rfl) (by go_simp <;> rfl) (hS _ (hb.trans ((za W).mono hb.size))) ?_ ?_
    · rw [put_comm (show 13 ≠ 11 by decide)]
      exact h302_ v2 v5 v8 W.heap.size B11 _ (hb.trans ((za W).mono hb.size)) (p2 _ _ _ g2 (za W)) (p5 _ _ _ _ g5 (za W)) (p8 _ _ _ g8 (za W)) (heap_alloc_new W _) (zr _ _ _ _ r11 (za W)) hb.size l11 (fun e => by have := zl _ _ _ r11; omega)
    refine AllReadyH.turn (d := 12) (OP := .alloc 213) (T := 0) (v := .pointer (some ⟨W.heap.size, 0, none⟩)) (w' := W.alloc (.cells #[.pointer none, .pointer none, .string ⟨#[]⟩, .bool false] 213)) rfl rfl rfl rfl (by rfl) (by go_simp <;> rfl) (hS _ (hb.trans ((za W).mono hb.size))) ?_ ?_
    · rw [put_comm (show 13 ≠ 12 by decide)]
      exact h312_ v2 v5 v8 W.heap.size B11 _ (hb.trans ((za W).mono hb.size)) (p2 _ _ _ g2 (za W)) (p5 _ _ _ _ g5 (za W)) (p8 _ _ _ g8 (za W)) (heap_alloc_new W _) (zr _ _ _ _ r11 (za W)) hb.size l11 (fun e => by have := zl _ _ _ r11; omega)
    exact AllReadyH.nil
  have h201_ : ∀ (v2 : Value) (v5 : Value) (B9 : Nat) (B10 : Nat) (W : World), Below w0.heap.size w0 W → C2 v2 W → C5 v2 v5 W → W.heap[B9]? = some (.cells #[.pointer none, .pointer none, .string ⟨#[]⟩, .bool false] 213) → W.heap[B10]? = some (.cells #[.pointer none, .pointer none, .string ⟨#[]⟩, .bool false] 213) → w0.heap.size ≤ B9 → w0.heap.size ≤ B10 → B9 ≠ B10 → wpAnyH Tryz.prog .any ops9 Q S 5 #[true, true, true, true, true, true, true, true, false, true, true, false, false, false, false] ((((a.put (some 42) v2).put (some 45) v5).put (some 11) (.pointer (some ⟨B9, 0, none⟩))).put (some 12) (.pointer (some ⟨B10, 0, none⟩))) W := fun v2 v5 B9 B10 W hb g2 g5 r9 r10 l9 l10 n9_10 => by
    refine wpAnyH_ready (rs := [8, 11]) (by kernel_rfl) (by simp) ?_
    refine AllReadyH.call (d := 48) (f := 225) (args := #[x8, k8]) (OP := .call { callee := .value (.func 225), args := #[.tmp 46, .tmp 47], argTypes := #[27, 9] }) (T := 213) rfl rfl rfl rfl (by rfl) (by have h1 := e8; have h2 := e8'; simp [Act.eval, go_sem] at h1 h2; simp [execOp, resolve, invoke, go_sem, h1, h2]) ?_ ?_
    · refine (c8 W hb).mono ?_
      rintro e w' ⟨v8, rfl, g8, b'⟩
      have hb' := hb.trans (b'.mono hb.size)
      refine ⟨_, rfl, hS _ hb', ?_⟩
      rw [put_comm (show 12 ≠ 48 by decide), put_comm (show 11 ≠ 48 by decide)]
      exact h301_ v2 v5 v8 B9 B10 w' hb' (p2 _ _ _ g2 b') (p5 _ _ _ _ g5 b') g8 (zr _ _ _ _ r9 b') (zr _ _ _ _ r10 b') l9 l10 n9_10
    refine AllReadyH.turn (d := 13) (OP := .alloc 213) (T := 0) (v := .pointer (some ⟨W.heap.size, 0, none⟩)) (w' := W.alloc (.cells #[.pointer none, .pointer none, .string ⟨#[]⟩, .bool false] 213)) rfl rfl rfl rfl (by rfl) (by go_simp <;> rfl) (hS _ (hb.trans ((za W).mono hb.size))) ?_ ?_
    · exact h2012_ v2 v5 B9 B10 W.heap.size _ (hb.trans ((za W).mono hb.size)) (p2 _ _ _ g2 (za W)) (p5 _ _ _ _ g5 (za W)) (zr _ _ _ _ r9 (za W)) (zr _ _ _ _ r10 (za W)) (heap_alloc_new W _) l9 l10 hb.size n9_10 (fun e => by have := zl _ _ _ r9; omega) (fun e => by have := zl _ _ _ r10; omega)
    exact AllReadyH.nil
  have h202_ : ∀ (v2 : Value) (v5 : Value) (B9 : Nat) (B11 : Nat) (W : World), Below w0.heap.size w0 W → C2 v2 W → C5 v2 v5 W → W.heap[B9]? = some (.cells #[.pointer none, .pointer none, .string ⟨#[]⟩, .bool false] 213) → W.heap[B11]? = some (.cells #[.pointer none, .pointer none, .string ⟨#[]⟩, .bool false] 213) → w0.heap.size ≤ B9 → w0.heap.size ≤ B11 → B9 ≠ B11 → wpAnyH Tryz.prog .any ops9 Q S 5 #[true, true, true, true, true, true, true, true, false, true, false, true, false, false, false] ((((a.put (some 42) v2).put (some 45) v5).put (some 11) (.pointer (some ⟨B9, 0, none⟩))).put (some 13) (.pointer (some ⟨B11, 0, none⟩))) W := fun v2 v5 B9 B11 W hb g2 g5 r9 r11 l9 l11 n9_11 => by
    refine wpAnyH_ready (rs := [8, 10]) (by kernel_rfl) (by simp) ?_
    refine AllReadyH.call (d := 48) (f := 225) (args := #[x8, k8]) (OP := .call { callee := .value (.func 225), args := #[.tmp 46, .tmp 47], argTypes := #[27, 9] }) (T := 213) rfl rfl rfl rfl (by rfl) (by have h1 := e8; have h2 := e8'; simp [Act.eval, go_sem] at h1 h2; simp [execOp, resolve, invoke, go_sem, h1, h2]) ?_ ?_
    · refine (c8 W hb).mono ?_
      rintro e w' ⟨v8, rfl, g8, b'⟩
      have hb' := hb.trans (b'.mono hb.size)
      refine ⟨_, rfl, hS _ hb', ?_⟩
      rw [put_comm (show 13 ≠ 48 by decide), put_comm (show 11 ≠ 48 by decide)]
      exact h302_ v2 v5 v8 B9 B11 w' hb' (p2 _ _ _ g2 b') (p5 _ _ _ _ g5 b') g8 (zr _ _ _ _ r9 b') (zr _ _ _ _ r11 b') l9 l11 n9_11
    refine AllReadyH.turn (d := 12) (OP := .alloc 213) (T := 0) (v := .pointer (some ⟨W.heap.size, 0, none⟩)) (w' := W.alloc (.cells #[.pointer none, .pointer none, .string ⟨#[]⟩, .bool false] 213)) rfl rfl rfl rfl (by rfl) (by go_simp <;> rfl) (hS _ (hb.trans ((za W).mono hb.size))) ?_ ?_
    · rw [put_comm (show 13 ≠ 12 by decide)]
      exact h2012_ v2 v5 B9 W.heap.size B11 _ (hb.trans ((za W).mono hb.size)) (p2 _ _ _ g2 (za W)) (p5 _ _ _ _ g5 (za W)) (zr _ _ _ _ r9 (za W)) (heap_alloc_new W _) (zr _ _ _ _ r11 (za W)) l9 hb.size l11 (fun e => by have := zl _ _ _ r9; omega) n9_11 (fun e => by have := zl _ _ _ r11; omega)
    exact AllReadyH.nil
  have h212_ : ∀ (v2 : Value) (v5 : Value) (B10 : Nat) (B11 : Nat) (W : World), Below w0.heap.size w0 W → C2 v2 W → C5 v2 v5 W → W.heap[B10]? = some (.cells #[.pointer none, .pointer none, .string ⟨#[]⟩, .bool false] 213) → W.heap[B11]? = some (.cells #[.pointer none, .pointer none, .string ⟨#[]⟩, .bool false] 213) → w0.heap.size ≤ B10 → w0.heap.size ≤ B11 → B10 ≠ B11 → wpAnyH Tryz.prog .any ops9 Q S 5 #[true, true, true, true, true, true, true, true, false, false, true, true, false, false, false] ((((a.put (some 42) v2).put (some 45) v5).put (some 12) (.pointer (some ⟨B10, 0, none⟩))).put (some 13) (.pointer (some ⟨B11, 0, none⟩))) W := fun v2 v5 B10 B11 W hb g2 g5 r10 r11 l10 l11 n10_11 => by
    refine wpAnyH_ready (rs := [8, 9]) (by kernel_rfl) (by simp) ?_
    refine AllReadyH.call (d := 48) (f := 225) (args := #[x8, k8]) (OP := .call { callee := .value (.func 225), args := #[.tmp 46, .tmp 47], argTypes := #[27, 9] }) (T := 213) rfl rfl rfl rfl (by rfl) (by have h1 := e8; have h2 := e8'; simp [Act.eval, go_sem] at h1 h2; simp [execOp, resolve, invoke, go_sem, h1, h2]) ?_ ?_
    · refine (c8 W hb).mono ?_
      rintro e w' ⟨v8, rfl, g8, b'⟩
      have hb' := hb.trans (b'.mono hb.size)
      refine ⟨_, rfl, hS _ hb', ?_⟩
      rw [put_comm (show 13 ≠ 48 by decide), put_comm (show 12 ≠ 48 by decide)]
      exact h312_ v2 v5 v8 B10 B11 w' hb' (p2 _ _ _ g2 b') (p5 _ _ _ _ g5 b') g8 (zr _ _ _ _ r10 b') (zr _ _ _ _ r11 b') l10 l11 n10_11
    refine AllReadyH.turn (d := 11) (OP := .alloc 213) (T := 0) (v := .pointer (some ⟨W.heap.size, 0, none⟩)) (w' := W.alloc (.cells #[.pointer none, .pointer none, .string ⟨#[]⟩, .bool false] 213)) rfl rfl rfl rfl (by rfl) (by go_simp <;> rfl) (hS _ (hb.trans ((za W).mono hb.size))) ?_ ?_
    · rw [put_comm (show 13 ≠ 11 by decide), put_comm (show 12 ≠ 11 by decide)]
      exact h2012_ v2 v5 W.heap.size B10 B11 _ (hb.trans ((za W).mono hb.size)) (p2 _ _ _ g2 (za W)) (p5 _ _ _ _ g5 (za W)) (heap_alloc_new W _) (zr _ _ _ _ r10 (za W)) (zr _ _ _ _ r11 (za W)) hb.size l10 l11 (fun e => by have := zl _ _ _ r10; omega) (fun e => by have := zl _ _ _ r11; omega) n10_11
    exact AllReadyH.nil
  have h1012_ : ∀ (v2 : Value) (B9 : Nat) (B10 : Nat) (B11 : Nat) (W : World), Below w0.heap.size w0 W → C2 v2 W → W.heap[B9]? = some (.cells #[.pointer none, .pointer none, .string ⟨#[]⟩, .bool false] 213) → W.heap[B10]? = some (.cells #[.pointer none, .pointer none, .string ⟨#[]⟩, .bool false] 213) → W.heap[B11]? = some (.cells #[.pointer none, .pointer none, .string ⟨#[]⟩, .bool false] 213) → w0.heap.size ≤ B9 → w0.heap.size ≤ B10 → w0.heap.size ≤ B11 → B9 ≠ B10 → B9 ≠ B11 → B10 ≠ B11 → wpAnyH Tryz.prog .any ops9 Q S 5 #[true, true, true, true, true, false, true, true, false, true, true, true, false, false, false] ((((a.put (some 42) v2).put (some 11) (.pointer (some ⟨B9, 0, none⟩))).put (some 12) (.pointer (some ⟨B10, 0, none⟩))).put (some 13) (.pointer (some ⟨B11, 0, none⟩))) W := fun v2 B9 B10 B11 W hb g2 r9 r10 r11 l9 l10 l11 n9_10 n9_11 n10_11 => by
    refine wpAnyH_ready (rs := [5]) (by kernel_rfl) (by simp) ?_
    refine AllReadyH.call (d := 45) (f := 225) (args := #[x5, k5]) (OP := .call { callee := .value (.func 225), args := #[.tmp 43, .tmp 44], argTypes := #[27, 9] }) (T := 213) rfl rfl rfl rfl (by rfl) (by have h1 := e5; have h2 := e5'; simp [Act.eval, go_sem] at h1 h2; simp [execOp, resolve, invoke, go_sem, h1, h2]) ?_ ?_
    · refine (c5 v2 W g2 hb).mono ?_
      rintro e w' ⟨v5, rfl, g5, b'⟩
      have hb' := hb.trans (b'.mono hb.size)
      refine ⟨_, rfl, hS _ hb', ?_⟩
      rw [put_comm (show 13 ≠ 45 by decide), put_comm (show 12 ≠ 45 by decide), put_comm (show 11 ≠ 45 by decide)]
      exact h2012_ v2 v5 B9 B10 B11 w' hb' (p2 _ _ _ g2 b') g5 (zr _ _ _ _ r9 b') (zr _ _ _ _ r10 b') (zr _ _ _ _ r11 b') l9 l10 l11 n9_10 n9_11 n10_11
    exact AllReadyH.nil
  have h3_ : ∀ (v2 : Value) (v5 : Value) (v8 : Value) (W : World), Below w0.heap.size w0 W → C2 v2 W → C5 v2 v5 W → C8 v8 W → wpAnyH Tryz.prog .any ops9 Q S 6 #[true, true, true, true, true, true, true, true, true, false, false, false, false, false, false] (((a.put (some 42) v2).put (some 45) v5).put (some 48) v8) W := fun v2 v5 v8 W hb g2 g5 g8 => by
    refine wpAnyH_ready (rs := [9, 10, 11]) (by kernel_rfl) (by simp) ?_
    refine AllReadyH.turn (d := 11) (OP := .alloc 213) (T := 0) (v := .pointer (some ⟨W.heap.size, 0, none⟩)) (w' := W.alloc (.cells #[.pointer none, .pointer none, .string ⟨#[]⟩, .bool false] 213)) rfl rfl rfl rfl (by rfl) (by go_simp <;> rfl) (hS _ (hb.trans ((za W).mono hb.size))) ?_ ?_
    · exact h30_ v2 v5 v8 W.heap.size _ (hb.trans ((za W).mono hb.size)) (p2 _ _ _ g2 (za W)) (p5 _ _ _ _ g5 (za W)) (p8 _ _ _ g8 (za W)) (heap_alloc_new W _) hb.size
    refine AllReadyH.turn (d := 12) (OP := .alloc 213) (T := 0) (v := .pointer (some ⟨W.heap.size, 0, none⟩)) (w' := W.alloc (.cells #[.pointer none, .pointer none, .string ⟨#[]⟩, .bool false] 213)) rfl rfl rfl rfl (by rfl) (by go_simp <;> rfl) (hS _ (hb.trans ((za W).mono hb.size))) ?_ ?_
    · exact h31_ v2 v5 v8 W.heap.size _ (hb.trans ((za W).mono hb.size)) (p2 _ _ _ g2 (za W)) (p5 _ _ _ _ g5 (za W)) (p8 _ _ _ g8 (za W)) (heap_alloc_new W _) hb.size
    refine AllReadyH.turn (d := 13) (OP := .alloc 213) (T := 0) (v := .pointer (some ⟨W.heap.size, 0, none⟩)) (w' := W.alloc (.cells #[.pointer none, .pointer none, .string ⟨#[]⟩, .bool false] 213)) rfl rfl rfl rfl (by rfl) (by go_simp <;> rfl) (hS _ (hb.trans ((za W).mono hb.size))) ?_ ?_
    · exact h32_ v2 v5 v8 W.heap.size _ (hb.trans ((za W).mono hb.size)) (p2 _ _ _ g2 (za W)) (p5 _ _ _ _ g5 (za W)) (p8 _ _ _ g8 (za W)) (heap_alloc_new W _) hb.size
    exact AllReadyH.nil
  have h20_ : ∀ (v2 : Value) (v5 : Value) (B9 : Nat) (W : World), Below w0.heap.size w0 W → C2 v2 W → C5 v2 v5 W → W.heap[B9]? = some (.cells #[.pointer none, .pointer none, .string ⟨#[]⟩, .bool false] 213) → w0.heap.size ≤ B9 → wpAnyH Tryz.prog .any ops9 Q S 6 #[true, true, true, true, true, true, true, true, false, true, false, false, false, false, false] (((a.put (some 42) v2).put (some 45) v5).put (some 11) (.pointer (some ⟨B9, 0, none⟩))) W := fun v2 v5 B9 W hb g2 g5 r9 l9 => by
    refine wpAnyH_ready (rs := [8, 10, 11]) (by kernel_rfl) (by simp) ?_
    refine AllReadyH.call (d := 48) (f := 225) (args := #[x8, k8]) (OP := .call { callee := .value (.func 225), args := #[.tmp 46, .tmp 47], argTypes := #[27, 9] }) (T := 213) rfl rfl rfl rfl (by rfl) (by have h1 := e8; have h2 := e8'; simp [Act.eval, go_sem] at h1 h2; simp [execOp, resolve, invoke, go_sem, h1, h2]) ?_ ?_
    · refine (c8 W hb).mono ?_
      rintro e w' ⟨v8, rfl, g8, b'⟩
      have hb' := hb.trans (b'.mono hb.size)
      refine ⟨_, rfl, hS _ hb', ?_⟩
      rw [put_comm (show 11 ≠ 48 by decide)]
      exact h30_ v2 v5 v8 B9 w' hb' (p2 _ _ _ g2 b') (p5 _ _ _ _ g5 b') g8 (zr _ _ _ _ r9 b') l9
    refine AllReadyH.turn (d := 12) (OP := .alloc 213) (T := 0) (v := .pointer (some ⟨W.heap.size, 0, none⟩)) (w' := W.alloc (.cells #[.pointer none, .pointer none, .string ⟨#[]⟩, .bool false] 213)) rfl rfl rfl rfl (by rfl) (by go_simp <;> rfl) (hS _ (hb.trans ((za W).mono hb.size))) ?_ ?_
    · exact h201_ v2 v5 B9 W.heap.size _ (hb.trans ((za W).mono hb.size)) (p2 _ _ _ g2 (za W)) (p5 _ _ _ _ g5 (za W)) (zr _ _ _ _ r9 (za W)) (heap_alloc_new W _) l9 hb.size (fun e => by have := zl _ _ _ r9; omega)
    refine AllReadyH.turn (d := 13) (OP := .alloc 213) (T := 0) (v := .pointer (some ⟨W.heap.size, 0, none⟩)) (w' := W.alloc (.cells #[.pointer none, .pointer none, .string ⟨#[]⟩, .bool false] 213)) rfl rfl rfl rfl (by rfl) (by go_simp <;> rfl) (hS _ (hb.trans ((za W).mono hb.size))) ?_ ?_
    · exact h202_ v2 v5 B9 W.heap.size _ (hb.trans ((za W).mono hb.size)) (p2 _ _ _ g2 (za W)) (p5 _ _ _ _ g5 (za W)) (zr _ _ _ _ r9 (za W)) (heap_alloc_new W _) l9 hb.size (fun e => by have := zl _ _ _ r9; omega)
    exact AllReadyH.nil
  have h21_ : ∀ (v2 : Value) (v5 : Value) (B10 : Nat) (W : World), Below w0.heap.size w0 W → C2 v2 W → C5 v2 v5 W → W.heap[B10]? = some (.cells #[.pointer none, .pointer none, .string ⟨#[]⟩, .bool false] 213) → w0.heap.size ≤ B10 → wpAnyH Tryz.prog .any ops9 Q S 6 #[true, true, true, true, true, true, true, true, false, false, true, false, false, false, false] (((a.put (some 42) v2).put (some 45) v5).put (some 12) (.pointer (some ⟨B10, 0, none⟩))) W := fun v2 v5 B10 W hb g2 g5 r10 l10 => by
    refine wpAnyH_ready (rs := [8, 9, 11]) (by kernel_rfl) (by simp) ?_
    refine AllReadyH.call (d := 48) (f := 225) (args := #[x8, k8]) (OP := .call { callee := .value (.func 225), args := #[.tmp 46, .tmp 47], argTypes := #[27, 9] }) (T := 213) rfl rfl rfl rfl (by rfl) (by have h1 := e8; have h2 := e8'; simp [Act.eval, go_sem] at h1 h2; simp [execOp, resolve, invoke, go_sem, h1, h2]) ?_ ?_
    · refine (c8 W hb).mono ?_
      rintro e w' ⟨v8, rfl, g8, b'⟩
      have hb' := hb.trans (b'.mono hb.size)
      refine ⟨_, rfl, hS _ hb', ?_⟩
      rw [put_comm (show 12 ≠ 48 by decide)]
      exact h31_ v2 v5 v8 B10 w' hb' (p2 _ _ _ g2 b') (p5 _ _ _ _ g5 b') g8 (zr _ _ _ _ r10 b') l10
    refine AllReadyH.turn (d := 11) (OP := .alloc 213) (T := 0) (v := .pointer (some ⟨W.heap.size, 0, none⟩)) (w' := W.alloc (.cells #[.pointer none, .pointer none, .string ⟨#[]⟩, .bool false] 213)) rfl rfl rfl rfl (by rfl) (by go_simp <;> rfl) (hS _ (hb.trans ((za W).mono hb.size))) ?_ ?_
    · rw [put_comm (show 12 ≠ 11 by decide)]
      exact h201_ v2 v5 W.heap.size B10 _ (hb.trans ((za W).mono hb.size)) (p2 _ _ _ g2 (za W)) (p5 _ _ _ _ g5 (za W)) (heap_alloc_new W _) (zr _ _ _ _ r10 (za W)) hb.size l10 (fun e => by have := zl _ _ _ r10; omega)
    refine AllReadyH.turn (d := 13) (OP := .alloc 213) (T := 0) (v := .pointer (some ⟨W.heap.size, 0, none⟩)) (w' := W.alloc (.cells #[.pointer none, .pointer none, .string ⟨#[]⟩, .bool false] 213)) rfl rfl rfl rfl (by rfl) (by go_simp <;> rfl) (hS _ (hb.trans ((za W).mono hb.size))) ?_ ?_
    · exact h212_ v2 v5 B10 W.heap.size _ (hb.trans ((za W).mono hb.size)) (p2 _ _ _ g2 (za W)) (p5 _ _ _ _ g5 (za W)) (zr _ _ _ _ r10 (za W)) (heap_alloc_new W _) l10 hb.size (fun e => by have := zl _ _ _ r10; omega)
    exact AllReadyH.nil
  have h22_ : ∀ (v2 : Value) (v5 : Value) (B11 : Nat) (W : World), Below w0.heap.size w0 W → C2 v2 W → C5 v2 v5 W → W.heap[B11]? = some (.cells #[.pointer none, .pointer none, .string ⟨#[]⟩, .bool false] 213) → w0.heap.size ≤ B11 → wpAnyH Tryz.prog .any ops9 Q S 6 #[true, true, true, true, true, true, true, true, false, false, false, true, false, false, false] (((a.put (some 42) v2).put (some 45) v5).put (some 13) (.pointer (some ⟨B11, 0, none⟩))) W := fun v2 v5 B11 W hb g2 g5 r11 l11 => by
    refine wpAnyH_ready (rs := [8, 9, 10]) (by kernel_rfl) (by simp) ?_
    refine AllReadyH.call (d := 48) (f := 225) (args := #[x8, k8]) (OP := .call { callee := .value (.func 225), args := #[.tmp 46, .tmp 47], argTypes := #[27, 9] }) (T := 213) rfl rfl rfl rfl (by rfl) (by have h1 := e8; have h2 := e8'; simp [Act.eval, go_sem] at h1 h2; simp [execOp, resolve, invoke, go_sem, h1, h2]) ?_ ?_
    · refine (c8 W hb).mono ?_
      rintro e w' ⟨v8, rfl, g8, b'⟩
      have hb' := hb.trans (b'.mono hb.size)
      refine ⟨_, rfl, hS _ hb', ?_⟩
      rw [put_comm (show 13 ≠ 48 by decide)]
      exact h32_ v2 v5 v8 B11 w' hb' (p2 _ _ _ g2 b') (p5 _ _ _ _ g5 b') g8 (zr _ _ _ _ r11 b') l11
    refine AllReadyH.turn (d := 11) (OP := .alloc 213) (T := 0) (v := .pointer (some ⟨W.heap.size, 0, none⟩)) (w' := W.alloc (.cells #[.pointer none, .pointer none, .string ⟨#[]⟩, .bool false] 213)) rfl rfl rfl rfl (by rfl) (by go_simp <;> rfl) (hS _ (hb.trans ((za W).mono hb.size))) ?_ ?_
    · rw [put_comm (show 13 ≠ 11 by decide)]
      exact h202_ v2 v5 W.heap.size B11 _ (hb.trans ((za W).mono hb.size)) (p2 _ _ _ g2 (za W)) (p5 _ _ _ _ g5 (za W)) (heap_alloc_new W _) (zr _ _ _ _ r11 (za W)) hb.size l11 (fun e => by have := zl _ _ _ r11; omega)
    refine AllReadyH.turn (d := 12) (OP := .alloc 213) (T := 0) (v := .pointer (some ⟨W.heap.size, 0, none⟩)) (w' := W.alloc (.cells #[.pointer none, .pointer none, .string ⟨#[]⟩, .bool false] 213)) rfl rfl rfl rfl (by rfl) (by go_simp <;> rfl) (hS _ (hb.trans ((za W).mono hb.size))) ?_ ?_
    · rw [put_comm (show 13 ≠ 12 by decide)]
      exact h212_ v2 v5 W.heap.size B11 _ (hb.trans ((za W).mono hb.size)) (p2 _ _ _ g2 (za W)) (p5 _ _ _ _ g5 (za W)) (heap_alloc_new W _) (zr _ _ _ _ r11 (za W)) hb.size l11 (fun e => by have := zl _ _ _ r11; omega)
    exact AllReadyH.nil
  have h101_ : ∀ (v2 : Value) (B9 : Nat) (B10 : Nat) (W : World), Below w0.heap.size w0 W → C2 v2 W → W.heap[B9]? = some (.cells #[.pointer none, .pointer none, .string ⟨#[]⟩, .bool false] 213) → W.heap[B10]? = some (.cells #[.pointer none, .pointer none, .string ⟨#[]⟩, .bool false] 213) → w0.heap.size ≤ B9 → w0.heap.size ≤ B10 → B9 ≠ B10 → wpAnyH Tryz.prog .any ops9 Q S 6 #[true, true, true, true, true, false, true, true, false, true, true, false, false, false, false] (((a.put (some 42) v2).put (some 11) (.pointer (some ⟨B9, 0, none⟩))).put (some 12) (.pointer (some ⟨B10, 0, none⟩))) W := fun v2 B9 B10 W hb g2 r9 r10 l9 l10 n9_10 => by
    refine wpAnyH_ready (rs := [5, 11]) (by kernel_rfl) (by simp) ?_
    refine AllReadyH.call (d := 45) (f := 225) (args := #[x5, k5]) (OP := .call { callee := .value (.func 225), args := #[.tmp 43, .tmp 44], argTypes := #[27, 9] }) (T := 213) rfl rfl rfl rfl (by rfl) (by have h1 := e5; have h2 := e5'; simp [Act.eval, go_sem] at h1 h2; simp [execOp, resolve, invoke, go_sem, h1, h2]) ?_ ?_
    · refine (c5 v2 W g2 hb).mono ?_
      rintro e w' ⟨v5, rfl, g5, b'⟩
      have hb' := hb.trans (b'.mono hb.size)
      refine ⟨_, rfl, hS _ hb', ?_⟩
      rw [put_comm (show 12 ≠ 45 by decide), put_comm (show 11 ≠ 45 by decide)]
      exact h201_ v2 v5 B9 B10 w' hb' (p2 _ _ _ g2 b') g5 (zr _ _ _ _ r9 b') (zr _ _ _ _ r10 b') l9 l10 n9_10
    refine AllReadyH.turn (d := 13) (OP := .alloc 213) (T := 0) (v := .pointer (some ⟨W.heap.size, 0, none⟩)) (w' := W.alloc (.cells #[.pointer none, .pointer none, .string ⟨#[]⟩, .bool false] 213)) rfl rfl rfl rfl (by rfl) (by go_simp <;> rfl) (hS _ (hb.trans ((za W).mono hb.size))) ?_ ?_
    · exact h1012_ v2 B9 B10 W.heap.size _ (hb.trans ((za W).mono hb.size)) (p2 _ _ _ g2 (za W)) (zr _ _ _ _ r9 (za W)) (zr _ _ _ _ r10 (za W)) (heap_alloc_new W _) l9 l10 hb.size n9_10 (fun e => by have := zl _ _ _ r9; omega) (fun e => by have := zl _ _ _ r10; omega)
    exact AllReadyH.nil
  have h102_ : ∀ (v2 : Value) (B9 : Nat) (B11 : Nat) (W : World), Below w0.heap.size w0 W → C2 v2 W → W.heap[B9]? = some (.cells #[.pointer none, .pointer none, .string ⟨#[]⟩, .bool false] 213) → W.heap[B11]? = some (.cells #[.pointer none, .pointer none, .string ⟨#[]⟩, .bool false] 213) → w0.heap.size ≤ B9 → w0.heap.size ≤ B11 → B9 ≠ B11 → wpAnyH Tryz.prog .any ops9 Q S 6 #[true, true, true, true, true, false, true, true, false, true, false, true, false, false, false] (((a.put (some 42) v2).put (some 11) (.pointer (some ⟨B9, 0, none⟩))).put (some 13) (.pointer (some ⟨B11, 0, none⟩))) W := fun v2 B9 B11 W hb g2 r9 r11 l9 l11 n9_11 => by
    refine wpAnyH_ready (rs := [5, 10]) (by kernel_rfl) (by simp) ?_
    refine AllReadyH.call (d := 45) (f := 225) (args := #[x5, k5]) (OP := .call { callee := .value (.func 225), args := #[.tmp 43, .tmp 44], argTypes := #[27, 9] }) (T := 213) rfl rfl rfl rfl (by rfl) (by have h1 := e5; have h2 := e5'; simp [Act.eval, go_sem] at h1 h2; simp [execOp, resolve, invoke, go_sem, h1, h2]) ?_ ?_
    · refine (c5 v2 W g2 hb).mono ?_
      rintro e w' ⟨v5, rfl, g5, b'⟩
      have hb' := hb.trans (b'.mono hb.size)
      refine ⟨_, rfl, hS _ hb', ?_⟩
      rw [put_comm (show 13 ≠ 45 by decide), put_comm (show 11 ≠ 45 by decide)]
      exact h202_ v2 v5 B9 B11 w' hb' (p2 _ _ _ g2 b') g5 (zr _ _ _ _ r9 b') (zr _ _ _ _ r11 b') l9 l11 n9_11
    refine AllReadyH.turn (d := 12) (OP := .alloc 213) (T := 0) (v := .pointer (some ⟨W.heap.size, 0, none⟩)) (w' := W.alloc (.cells #[.pointer none, .pointer none, .string ⟨#[]⟩, .bool false] 213)) rfl rfl rfl rfl (by rfl) (by go_simp <;> rfl) (hS _ (hb.trans ((za W).mono hb.size))) ?_ ?_
    · rw [put_comm (show 13 ≠ 12 by decide)]
      exact h1012_ v2 B9 W.heap.size B11 _ (hb.trans ((za W).mono hb.size)) (p2 _ _ _ g2 (za W)) (zr _ _ _ _ r9 (za W)) (heap_alloc_new W _) (zr _ _ _ _ r11 (za W)) l9 hb.size l11 (fun e => by have := zl _ _ _ r9; omega) n9_11 (fun e => by have := zl _ _ _ r11; omega)
    exact AllReadyH.nil
  have h112_ : ∀ (v2 : Value) (B10 : Nat) (B11 : Nat) (W : World), Below w0.heap.size w0 W → C2 v2 W → W.heap[B10]? = some (.cells #[.pointer none, .pointer none, .string ⟨#[]⟩, .bool false] 213) → W.heap[B11]? = some (.cells #[.pointer none, .pointer none, .string ⟨#[]⟩, .bool false] 213) → w0.heap.size ≤ B10 → w0.heap.size ≤ B11 → B10 ≠ B11 → wpAnyH Tryz.prog .any ops9 Q S 6 #[true, true, true, true, true, false, true, true, false, false, true, true, false, false, false] (((a.put (some 42) v2).put (some 12) (.pointer (some ⟨B10, 0, none⟩))).put (some 13) (.pointer (some ⟨B11, 0, none⟩))) W := fun v2 B10 B11 W hb g2 r10 r11 l10 l11 n10_11 => by
    refine wpAnyH_ready (rs := [5, 9]) (by kernel_rfl) (by simp) ?_
    refine AllReadyH.call (d := 45) (f := 225) (args := #[x5, k5]) (OP := .call { callee := .value (.func 225), args := #[.tmp 43, .tmp 44], argTypes := #[27, 9] }) (T := 213) rfl rfl rfl rfl (by rfl) (by have h1 := e5; have h2 := e5'; simp [Act.eval, go_sem] at h1 h2; simp [execOp, resolve, invoke, go_sem, h1, h2]) ?_ ?_
    · refine (c5 v2 W g2 hb).mono ?_
      rintro e w' ⟨v5, rfl, g5, b'⟩
      have hb' := hb.trans (b'.mono hb.size)
      refine ⟨_, rfl, hS _ hb', ?_⟩
      rw [put_comm (show 13 ≠ 45 by decide), put_comm (show 12 ≠ 45 by decide)]
      exact h212_ v2 v5 B10 B11 w' hb' (p2 _ _ _ g2 b') g5 (zr _ _ _ _ r10 b') (zr _ _ _ _ r11 b') l10 l11 n10_11
    refine AllReadyH.turn (d := 11) (OP := .alloc 213) (T := 0) (v := .pointer (some ⟨W.heap.size, 0, none⟩)) (w' := W.alloc (.cells #[.pointer none, .pointer none, .string ⟨#[]⟩, .bool false] 213)) rfl rfl rfl rfl (by rfl) (by go_simp <;> rfl) (hS _ (hb.trans ((za W).mono hb.size))) ?_ ?_
    · rw [put_comm (show 13 ≠ 11 by decide), put_comm (show 12 ≠ 11 by decide)]
      exact h1012_ v2 W.heap.size B10 B11 _ (hb.trans ((za W).mono hb.size)) (p2 _ _ _ g2 (za W)) (heap_alloc_new W _) (zr _ _ _ _ r10 (za W)) (zr _ _ _ _ r11 (za W)) hb.size l10 l11 (fun e => by have := zl _ _ _ r10; omega) (fun e => by have := zl _ _ _ r11; omega) n10_11
    exact AllReadyH.nil
  have h0012_ : ∀ (B9 : Nat) (B10 : Nat) (B11 : Nat) (W : World), Below w0.heap.size w0 W → W.heap[B9]? = some (.cells #[.pointer none, .pointer none, .string ⟨#[]⟩, .bool false] 213) → W.heap[B10]? = some (.cells #[.pointer none, .pointer none, .string ⟨#[]⟩, .bool false] 213) → W.heap[B11]? = some (.cells #[.pointer none, .pointer none, .string ⟨#[]⟩, .bool false] 213) → w0.heap.size ≤ B9 → w0.heap.size ≤ B10 → w0.heap.size ≤ B11 → B9 ≠ B10 → B9 ≠ B11 → B10 ≠ B11 → wpAnyH Tryz.prog .any ops9 Q S 6 #[true, true, false, true, true, false, true, true, false, true, true, true, false, false, false] (((a.put (some 11) (.pointer (some ⟨B9, 0, none⟩))).put (some 12) (.pointer (some ⟨B10, 0, none⟩))).put (some 13) (.pointer (some ⟨B11, 0, none⟩))) W := fun B9 B10 B11 W hb r9 r10 r11 l9 l10 l11 n9_10 n9_11 n10_11 => by
    refine wpAnyH_ready (rs := [2]) (by kernel_rfl) (by simp) ?_
    refine AllReadyH.call (d := 42) (f := 225) (args := #[x2, k2]) (OP := .call { callee := .value (.func 225), args := #[.tmp 40, .tmp 41], argTypes := #[27, 9] }) (T := 213) rfl rfl rfl rfl (by rfl) (by have h1 := e2; have h2 := e2'; simp [Act.eval, go_sem] at h1 h2; simp [execOp, resolve, invoke, go_sem, h1, h2]) ?_ ?_
    · refine (c2 W hb).mono ?_
      rintro e w' ⟨v2, rfl, g2, b'⟩
      have hb' := hb.trans (b'.mono hb.size)
      refine ⟨_, rfl, hS _ hb', ?_⟩
      rw [put_comm (show 13 ≠ 42 by decide), put_comm (show 12 ≠ 42 by decide), put_comm (show 11 ≠ 42 by decide)]
      exact h1012_ v2 B9 B10 B11 w' hb' g2 (zr _ _ _ _ r9 b') (zr _ _ _ _ r10 b') (zr _ _ _ _ r11 b') l9 l10 l11 n9_10 n9_11 n10_11
    exact AllReadyH.nil
  have h2_ : ∀ (v2 : Value) (v5 : Value) (W : World), Below w0.heap.size w0 W → C2 v2 W → C5 v2 v5 W → wpAnyH Tryz.prog .any ops9 Q S 7 #[true, true, true, true, true, true, true, true, false, false, false, false, false, false, false] ((a.put (some 42) v2).put (some 45) v5) W := fun v2 v5 W hb g2 g5 => by
    refine wpAnyH_ready (rs := [8, 9, 10, 11]) (by kernel_rfl) (by simp) ?_
    refine AllReadyH.call (d := 48) (f := 225) (args := #[x8, k8]) (OP := .call { callee := .value (.func 225), args := #[.tmp 46, .tmp 47], argTypes := #[27, 9] }) (T := 213) rfl rfl rfl rfl (by rfl) (by have h1 := e8; have h2 := e8'; simp [Act.eval, go_sem] at h1 h2; simp [execOp, resolve, invoke, go_sem, h1, h2]) ?_ ?_
    · refine (c8 W hb).mono ?_
      rintro e w' ⟨v8, rfl, g8, b'⟩
      have hb' := hb.trans (b'.mono hb.size)
      refine ⟨_, rfl, hS _ hb', ?_⟩
      exact h3_ v2 v5 v8 w' hb' (p2 _ _ _ g2 b') (p5 _ _ _ _ g5 b') g8
    refine AllReadyH.turn (d := 11) (OP := .alloc 213) (T := 0) (v := .pointer (some ⟨W.heap.size, 0, none⟩)) (w' := W.alloc (.cells #[.pointer none, .pointer none, .string ⟨#[]⟩, .bool false] 213)) rfl rfl rfl rfl (by rfl) (by go_simp <;> rfl) (hS _ (hb.trans ((za W).mono hb.size))) ?_ ?_
    · exact h20_ v2 v5 W.heap.size _ (hb.trans ((za W).mono hb.size)) (p2 _ _ _ g2 (za W)) (p5 _ _ _ _ g5 (za W)) (heap_alloc_new W _) hb.size
    refine AllReadyH.turn (d := 12) (OP := .alloc 213) (T := 0) (v := .pointer (some ⟨W.heap.size, 0, none⟩)) (w' := W.alloc (.cells #[.pointer none, .pointer none, .string ⟨#[]⟩, .bool false] 213)) rfl rfl rfl rfl (by rfl) (by go_simp <;> rfl) (hS _ (hb.trans ((za W).mono hb.size))) ?_ ?_
    · exact h21_ v2 v5 W.heap.size _ (hb.trans ((za W).mono hb.size)) (p2 _ _ _ g2 (za W)) (p5 _ _ _ _ g5 (za W)) (heap_alloc_new W _) hb.size
    refine AllReadyH.turn (d := 13) (OP := .alloc 213) (T := 0) (v := .pointer (some ⟨W.heap.size, 0, none⟩)) (w' := W.alloc (.cells #[.pointer none, .pointer none, .string ⟨#[]⟩, .bool false] 213)) rfl rfl rfl rfl (by rfl) (by go_simp <;> rfl) (hS _ (hb.trans ((za W).mono hb.size))) ?_ ?_
    · exact h22_ v2 v5 W.heap.size _ (hb.trans ((za W).mono hb.size)) (p2 _ _ _ g2 (za W)) (p5 _ _ _ _ g5 (za W)) (heap_alloc_new W _) hb.size
    exact AllReadyH.nil
  have h10_ : ∀ (v2 : Value) (B9 : Nat) (W : World), Below w0.heap.size w0 W → C2 v2 W → W.heap[B9]? = some (.cells #[.pointer none, .pointer none, .string ⟨#[]⟩, .bool false] 213) → w0.heap.size ≤ B9 → wpAnyH Tryz.prog .any ops9 Q S 7 #[true, true, true, true, true, false, true, true, false, true, false, false, false, false, false] ((a.put (some 42) v2).put (some 11) (.pointer (some ⟨B9, 0, none⟩))) W := fun v2 B9 W hb g2 r9 l9 => by
    refine wpAnyH_ready (rs := [5, 10, 11]) (by kernel_rfl) (by simp) ?_
    refine AllReadyH.call (d := 45) (f := 225) (args := #[x5, k5]) (OP := .call { callee := .value (.func 225), args := #[.tmp 43, .tmp 44], argTypes := #[27, 9] }) (T := 213) rfl rfl rfl rfl (by rfl) (by have h1 := e5; have h2 := e5'; simp [Act.eval, go_sem] at h1 h2; simp [execOp, resolve, invoke, go_sem, h1, h2]) ?_ ?_
    · refine (c5 v2 W g2 hb).mono ?_
      rintro e w' ⟨v5, rfl, g5, b'⟩
      have hb' := hb.trans (b'.mono hb.size)
      refine ⟨_, rfl, hS _ hb', ?_⟩
      rw [put_comm (show 11 ≠ 45 by decide)]
      exact h20_ v2 v5 B9 w' hb' (p2 _ _ _ g2 b') g5 (zr _ _ _ _ r9 b') l9
    refine AllReadyH.turn (d := 12) (OP := .alloc 213) (T := 0) (v := .pointer (some ⟨W.heap.size, 0, none⟩)) (w' := W.alloc (.cells #[.pointer none, .pointer none, .string ⟨#[]⟩, .bool false] 213)) rfl rfl rfl rfl (by rfl) (by go_simp <;> rfl) (hS _ (hb.trans ((za W).mono hb.size))) ?_ ?_
    · exact h101_ v2 B9 W.heap.size _ (hb.trans ((za W).mono hb.size)) (p2 _ _ _ g2 (za W)) (zr _ _ _ _ r9 (za W)) (heap_alloc_new W _) l9 hb.size (fun e => by have := zl _ _ _ r9; omega)
    refine AllReadyH.turn (d := 13) (OP := .alloc 213) (T := 0) (v := .pointer (some ⟨W.heap.size, 0, none⟩)) (w' := W.alloc (.cells #[.pointer none, .pointer none, .string ⟨#[]⟩, .bool false] 213)) rfl rfl rfl rfl (by rfl) (by go_simp <;> rfl) (hS _ (hb.trans ((za W).mono hb.size))) ?_ ?_
    · exact h102_ v2 B9 W.heap.size _ (hb.trans ((za W).mono hb.size)) (p2 _ _ _ g2 (za W)) (zr _ _ _ _ r9 (za W)) (heap_alloc_new W _) l9 hb.size (fun e => by have := zl _ _ _ r9; omega)
    exact AllReadyH.nil
  have h11_ : ∀ (v2 : Value) (B10 : Nat) (W : World), Below w0.heap.size w0 W → C2 v2 W → W.heap[B10]? = some (.cells #[.pointer none, .pointer none, .string ⟨#[]⟩, .bool false] 213) → w0.heap.size ≤ B10 → wpAnyH Tryz.prog .any ops9 Q S 7 #[true, true, true, true, true, false, true, true, false, false, true, false, false, false, false] ((a.put (some 42) v2).put (some 12) (.pointer (some ⟨B10, 0, none⟩))) W := fun v2 B10 W hb g2 r10 l10 => by
    refine wpAnyH_ready (rs := [5, 9, 11]) (by kernel_rfl) (by simp) ?_
    refine AllReadyH.call (d := 45) (f := 225) (args := #[x5, k5]) (OP := .call { callee := .value (.func 225), args := #[.tmp 43, .tmp 44], argTypes := #[27, 9] }) (T := 213) rfl rfl rfl rfl (by rfl) (by have h1 := e5; have h2 := e5'; simp [Act.eval, go_sem] at h1 h2; simp [execOp, resolve, invoke, go_sem, h1, h2]) ?_ ?_
    · refine (c5 v2 W g2 hb).mono ?_
      rintro e w' ⟨v5, rfl, g5, b'⟩
      have hb' := hb.trans (b'.mono hb.size)
      refine ⟨_, rfl, hS _ hb', ?_⟩
      rw [put_comm (show 12 ≠ 45 by decide)]
      exact h21_ v2 v5 B10 w' hb' (p2 _ _ _ g2 b') g5 (zr _ _ _ _ r10 b') l10
    refine AllReadyH.turn (d := 11) (OP := .alloc 213) (T := 0) (v := .pointer (some ⟨W.heap.size, 0, none⟩)) (w' := W.alloc (.cells #[.pointer none, .pointer none, .string ⟨#[]⟩, .bool false] 213)) rfl rfl rfl rfl (by rfl) (by go_simp <;> rfl) (hS _ (hb.trans ((za W).mono hb.size))) ?_ ?_
    · rw [put_comm (show 12 ≠ 11 by decide)]
      exact h101_ v2 W.heap.size B10 _ (hb.trans ((za W).mono hb.size)) (p2 _ _ _ g2 (za W)) (heap_alloc_new W _) (zr _ _ _ _ r10 (za W)) hb.size l10 (fun e => by have := zl _ _ _ r10; omega)
    refine AllReadyH.turn (d := 13) (OP := .alloc 213) (T := 0) (v := .pointer (some ⟨W.heap.size, 0, none⟩)) (w' := W.alloc (.cells #[.pointer none, .pointer none, .string ⟨#[]⟩, .bool false] 213)) rfl rfl rfl rfl (by rfl) (by go_simp <;> rfl) (hS _ (hb.trans ((za W).mono hb.size))) ?_ ?_
    · exact h112_ v2 B10 W.heap.size _ (hb.trans ((za W).mono hb.size)) (p2 _ _ _ g2 (za W)) (zr _ _ _ _ r10 (za W)) (heap_alloc_new W _) l10 hb.size (fun e => by have := zl _ _ _ r10; omega)
    exact AllReadyH.nil
  have h12_ : ∀ (v2 : Value) (B11 : Nat) (W : World), Below w0.heap.size w0 W → C2 v2 W → W.heap[B11]? = some (.cells #[.pointer none, .pointer none, .string ⟨#[]⟩, .bool false] 213) → w0.heap.size ≤ B11 → wpAnyH Tryz.prog .any ops9 Q S 7 #[true, true, true, true, true, false, true, true, false, false, false, true, false, false, false] ((a.put (some 42) v2).put (some 13) (.pointer (some ⟨B11, 0, none⟩))) W := fun v2 B11 W hb g2 r11 l11 => by
    refine wpAnyH_ready (rs := [5, 9, 10]) (by kernel_rfl) (by simp) ?_
    refine AllReadyH.call (d := 45) (f := 225) (args := #[x5, k5]) (OP := .call { callee := .value (.func 225), args := #[.tmp 43, .tmp 44], argTypes := #[27, 9] }) (T := 213) rfl rfl rfl rfl (by rfl) (by have h1 := e5; have h2 := e5'; simp [Act.eval, go_sem] at h1 h2; simp [execOp, resolve, invoke, go_sem, h1, h2]) ?_ ?_
    · refine (c5 v2 W g2 hb).mono ?_
      rintro e w' ⟨v5, rfl, g5, b'⟩
      have hb' := hb.trans (b'.mono hb.size)
      refine ⟨_, rfl, hS _ hb', ?_⟩
      rw [put_comm (show 13 ≠ 45 by decide)]
      exact h22_ v2 v5 B11 w' hb' (p2 _ _ _ g2 b') g5 (zr _ _ _ _ r11 b') l11
    refine AllReadyH.turn (d := 11) (OP := .alloc 213) (T := 0) (v := .pointer (some ⟨W.heap.size, 0, none⟩)) (w' := W.alloc (.cells #[.pointer none, .pointer none, .string ⟨#[]⟩, .bool false] 213)) rfl rfl rfl rfl (by rfl) (by go_simp <;> rfl) (hS _ (hb.trans ((za W).mono hb.size))) ?_ ?_
    · rw [put_comm (show 13 ≠ 11 by decide)]
      exact h102_ v2 W.heap.size B11 _ (hb.trans ((za W).mono hb.size)) (p2 _ _ _ g2 (za W)) (heap_alloc_new W _) (zr _ _ _ _ r11 (za W)) hb.size l11 (fun e => by have := zl _ _ _ r11; omega)
    refine AllReadyH.turn (d := 12) (OP := .alloc 213) (T := 0) (v := .pointer (some ⟨W.heap.size, 0, none⟩)) (w' := W.alloc (.cells #[.pointer none, .pointer none, .string ⟨#[]⟩, .bool false] 213)) rfl rfl rfl rfl (by rfl) (by go_simp <;> rfl) (hS _ (hb.trans ((za W).mono hb.size))) ?_ ?_
    · rw [put_comm (show 13 ≠ 12 by decide)]
      exact h112_ v2 W.heap.size B11 _ (hb.trans ((za W).mono hb.size)) (p2 _ _ _ g2 (za W)) (heap_alloc_new W _) (zr _ _ _ _ r11 (za W)) hb.size l11 (fun e => by have := zl _ _ _ r11; omega)
    exact AllReadyH.nil
  have h001_ : ∀ (B9 : Nat) (B10 : Nat) (W : World), Below w0.heap.size w0 W → W.heap[B9]? = some (.cells #[.pointer none, .pointer none, .string ⟨#[]⟩, .bool false] 213) → W.heap[B10]? = some (.cells #[.pointer none, .pointer none, .string ⟨#[]⟩, .bool false] 213) → w0.heap.size ≤ B9 → w0.heap.size ≤ B10 → B9 ≠ B10 → wpAnyH Tryz.prog .any ops9 Q S 7 #[true, true, false, true, true, false, true, true, false, true, true, false, false, false, false] ((a.put (some 11) (.pointer (some ⟨B9, 0, none⟩))).put (some 12) (.pointer (some ⟨B10, 0, none⟩))) W := fun B9 B10 W hb r9 r10 l9 l10 n9_10 => by
    refine wpAnyH_ready (rs := [2, 11]) (by kernel_rfl) (by simp) ?_
    refine AllReadyH.call (d := 42) (f := 225) (args := #[x2, k2]) (OP := .call { callee := .value (.func 225), args := #[.tmp 40, .tmp 41], argTypes := #[27, 9] }) (T := 213) rfl rfl rfl rfl (by rfl) (by have h1 := e2; have h2 := e2'; simp [Act.eval, go_sem] at h1 h2; simp [execOp, resolve, invoke, go_sem, h1, h2]) ?_ ?_
    · refine (c2 W hb).mono ?_
      rintro e w' ⟨v2, rfl, g2, b'⟩
      have hb' := hb.trans (b'.mono hb.size)
      refine ⟨_, rfl, hS _ hb', ?_⟩
      rw [put_comm (show 12 ≠ 42 by decide), put_comm (show 11 ≠ 42 by decide)]
      exact h101_ v2 B9 B10 w' hb' g2 (zr _ _ _ _ r9 b') (zr _ _ _ _ r10 b') l9 l10 n9_10
    refine AllReadyH.turn (d := 13) (OP := .alloc 213) (T := 0) (v := .pointer (some ⟨W.heap.size, 0, none⟩)) (w' := W.alloc (.cells #[.pointer none, .pointer none, .string ⟨#[]⟩, .bool false] 213)) rfl rfl rfl rfl (by rfl) (by go_simp <;> rfl) (hS _ (hb.trans ((za W).mono hb.size))) ?_ ?_
    · exact h0012_ B9 B10 W.heap.size _ (hb.trans ((za W).mono hb.size)) (zr _ _ _ _ r9 (za W)) (zr _ _ _ _ r10 (za W)) (heap_alloc_new W _) l9 l10 hb.size n9_10 (fun e => by have := zl _ _ _ r9; omega) (fun e => by have := zl _ _ _ r10; omega)
    exact AllReadyH.nil
  have h002_ : ∀ (B9 : Nat) (B11 : Nat) (W : World), Below w0.heap.size w0 W → W.heap[B9]? = some (.cells #[.pointer none, .pointer none, .string ⟨#[]⟩, .bool false] 213) → W.heap[B11]? = some (.cells #[.pointer none, .pointer none, .string ⟨#[]⟩, .bool false] 213) → w0.heap.size ≤ B9 → w0.heap.size ≤ B11 → B9 ≠ B11 → wpAnyH Tryz.prog .any ops9 Q S 7 #[true, true, false, true, true, false, true, true, false, true, false, true, false, false, false] ((a.put (some 11) (.pointer (some ⟨B9, 0, none⟩))).put (some 13) (.pointer (some ⟨B11, 0, none⟩))) W := fun B9 B11 W hb r9 r11 l9 l11 n9_11 => by
    refine wpAnyH_ready (rs := [2, 10]) (by kernel_rfl) (by simp) ?_
    refine AllReadyH.call (d := 42) (f := 225) (args := #[x2, k2]) (OP := .call { callee := .value (.func 225), args := #[.tmp 40, .tmp 41], argTypes := #[27, 9] }) (T := 213) rfl rfl rfl rfl (by rfl) (by have h1 := e2; have h2 := e2'; simp [Act.eval, go_sem] at h1 h2; simp [execOp, resolve, invoke, go_sem, h1, h2]) ?_ ?_
    · refine (c2 W hb).mono ?_
      rintro e w' ⟨v2, rfl, g2, b'⟩
      have hb' := hb.trans (b'.mono hb.size)
      refine ⟨_, rfl, hS _ hb', ?_⟩
      rw [put_comm (show 13 ≠ 42 by decide), put_comm (show 11 ≠ 42 by decide)]
      exact h102_ v2 B9 B11 w' hb' g2 (zr _ _ _ _ r9 b') (zr _ _ _ _ r11 b') l9 l11 n9_11
    refine AllReadyH.turn (d := 12) (OP := .alloc 213) (T := 0) (v := .pointer (some ⟨W.heap.size, 0, none⟩)) (w' := W.alloc (.cells #[.pointer none, .pointer none, .string ⟨#[]⟩, .bool false] 213)) rfl rfl rfl rfl (by rfl) (by go_simp <;> rfl) (hS _ (hb.trans ((za W).mono hb.size))) ?_ ?_
    · rw [put_comm (show 13 ≠ 12 by decide)]
      exact h0012_ B9 W.heap.size B11 _ (hb.trans ((za W).mono hb.size)) (zr _ _ _ _ r9 (za W)) (heap_alloc_new W _) (zr _ _ _ _ r11 (za W)) l9 hb.size l11 (fun e => by have := zl _ _ _ r9; omega) n9_11 (fun e => by have := zl _ _ _ r11; omega)
    exact AllReadyH.nil
  have h012_ : ∀ (B10 : Nat) (B11 : Nat) (W : World), Below w0.heap.size w0 W → W.heap[B10]? = some (.cells #[.pointer none, .pointer none, .string ⟨#[]⟩, .bool false] 213) → W.heap[B11]? = some (.cells #[.pointer none, .pointer none, .string ⟨#[]⟩, .bool false] 213) → w0.heap.size ≤ B10 → w0.heap.size ≤ B11 → B10 ≠ B11 → wpAnyH Tryz.prog .any ops9 Q S 7 #[true, true, false, true, true, false, true, true, false, false, true, true, false, false, false] ((a.put (some 12) (.pointer (some ⟨B10, 0, none⟩))).put (some 13) (.pointer (some ⟨B11, 0, none⟩))) W := fun B10 B11 W hb r10 r11 l10 l11 n10_11 => by
    refine wpAnyH_ready (rs := [2, 9]) (by kernel_rfl) (by simp) ?_
    refine AllReadyH.call (d := 42) (f := 225) (args := #[x2, k2]) (OP := .call { callee := .value (.func 225), args := #[.tmp 40, .tmp 41], argTypes := #[27, 9] }) (T := 213) rfl rfl rfl rfl (by rfl) (by have h1 := e2; have h2 := e2'; simp [Act.eval, go_sem] at h1 h2; simp [execOp, resolve, invoke, go_sem, h1, h2]) ?_ ?_
    · refine (c2 W hb).mono ?_
      rintro e w' ⟨v2, rfl, g2, b'⟩
      have hb' := hb.trans (b'.mono hb.size)
      refine ⟨_, rfl, hS _ hb', ?_⟩
      rw [put_comm (show 13 ≠ 42 by decide), put_comm (show 12 ≠ 42 by decide)]
      exact h112_ v2 B10 B11 w' hb' g2 (zr _ _ _ _ r10 b') (zr _ _ _ _ r11 b') l10 l11 n10_11
    refine AllReadyH.turn (d := 11) (OP := .alloc 213) (T := 0) (v := .pointer (some ⟨W.heap.size, 0, none⟩)) (w' := W.alloc (.cells #[.pointer none, .pointer none, .string ⟨#[]⟩, .bool false] 213)) rfl rfl rfl rfl (by rfl) (by go_simp <;> rfl) (hS _ (hb.trans ((za W).mono hb.size))) ?_ ?_
    · rw [put_comm (show 13 ≠ 11 by decide), put_comm (show 12 ≠ 11 by decide)]
      exact h0012_ W.heap.size B10 B11 _ (hb.trans ((za W).mono hb.size)) (heap_alloc_new W _) (zr _ _ _ _ r10 (za W)) (zr _ _ _ _ r11 (za W)) hb.size l10 l11 (fun e => by have := zl _ _ _ r10; omega) (fun e => by have := zl _ _ _ r11; omega) n10_11
    exact AllReadyH.nil
  have h1_ : ∀ (v2 : Value) (W : World), Below w0.heap.size w0 W → C2 v2 W → wpAnyH Tryz.prog .any ops9 Q S 8 #[true, true, true, true, true, false, true, true, false, false, false, false, false, false, false] (a.put (some 42) v2) W := fun v2 W hb g2 => by
    refine wpAnyH_ready (rs := [5, 9, 10, 11]) (by kernel_rfl) (by simp) ?_
    refine AllReadyH.call (d := 45) (f := 225) (args := #[x5, k5]) (OP := .call { callee := .value (.func 225), args := #[.tmp 43, .tmp 44], argTypes := #[27, 9] }) (T := 213) rfl rfl rfl rfl (by rfl) (by have h1 := e5; have h2 := e5'; simp [Act.eval, go_sem] at h1 h2; simp [execOp, resolve, invoke, go_sem, h1, h2]) ?_ ?_
    · refine (c5 v2 W g2 hb).mono ?_
      rintro e w' ⟨v5, rfl, g5, b'⟩
      have hb' := hb.trans (b'.mono hb.size)
      refine ⟨_, rfl, hS _ hb', ?_⟩
      exact h2_ v2 v5 w' hb' (p2 _ _ _ g2 b') g5
    refine AllReadyH.turn (d := 11) (OP := .alloc 213) (T := 0) (v := .pointer (some ⟨W.heap.size, 0, none⟩)) (w' := W.alloc (.cells #[.pointer none, .pointer none, .string ⟨#[]⟩, .bool false] 213)) rfl rfl rfl rfl (by rfl) (by go_simp <;> rfl) (hS _ (hb.trans ((za W).mono hb.size))) ?_ ?_
    · exact h10_ v2 W.heap.size _ (hb.trans ((za W).mono hb.size)) (p2 _ _ _ g2 (za W)) (heap_alloc_new W _) hb.size
    refine AllReadyH.turn (d := 12) (OP := .alloc 213) (T := 0) (v := .pointer (some ⟨W.heap.size, 0, none⟩)) (w' := W.alloc (.cells #[.pointer none, .pointer none, .string ⟨#[]⟩, .bool false] 213)) rfl rfl rfl rfl (by rfl) (by go_simp <;> rfl) (hS _ (hb.trans ((za W).mono hb.size))) ?_ ?_
    · exact h11_ v2 W.heap.size _ (hb.trans ((za W).mono hb.size)) (p2 _ _ _ g2 (za W)) (heap_alloc_new W _) hb.size
    refine AllReadyH.turn (d := 13) (OP := .alloc 213) (T := 0) (v := .pointer (some ⟨W.heap.size, 0, none⟩)) (w' := W.alloc (.cells #[.pointer none, .pointer none, .string ⟨#[]⟩, .bool false] 213)) rfl rfl rfl rfl (by rfl) (by go_simp <;> rfl) (hS _ (hb.trans ((za W).mono hb.size))) ?_ ?_
    · exact h12_ v2 W.heap.size _ (hb.trans ((za W).mono hb.size)) (p2 _ _ _ g2 (za W)) (heap_alloc_new W _) hb.size
    exact AllReadyH.nil
  have h00_ : ∀ (B9 : Nat) (W : World), Below w0.heap.size w0 W → W.heap[B9]? = some (.cells #[.pointer none, .pointer none, .string ⟨#[]⟩, .bool false] 213) → w0.heap.size ≤ B9 → wpAnyH Tryz.prog .any ops9 Q S 8 #[true, true, false, true, true, false, true, true, false, true, false, false, false, false, false] (a.put (some 11) (.pointer (some ⟨B9, 0, none⟩))) W := fun B9 W hb r9 l9 => by
    refine wpAnyH_ready (rs := [2, 10, 11]) (by kernel_rfl) (by simp) ?_
    refine AllReadyH.call (d := 42) (f := 225) (args := #[x2, k2]) (OP := .call { callee := .value (.func 225), args := #[.tmp 40, .tmp 41], argTypes := #[27, 9] }) (T := 213) rfl rfl rfl rfl (by rfl) (by have h1 := e2; have h2 := e2'; simp [Act.eval, go_sem] at h1 h2; simp [execOp, resolve, invoke, go_sem, h1, h2]) ?_ ?_
    · refine (c2 W hb).mono ?_
      rintro e w' ⟨v2, rfl, g2, b'⟩
      have hb' := hb.trans (b'.mono hb.size)
      refine ⟨_, rfl, hS _ hb', ?_⟩
      rw [put_comm (show 11 ≠ 42 by decide)]
      exact h10_ v2 B9 w' hb' g2 (zr _ _ _ _ r9 b') l9
    refine AllReadyH.turn (d := 12) (OP := .alloc 213) (T := 0) (v := .pointer (some ⟨W.heap.size, 0, none⟩)) (w' := W.alloc (.cells #[.pointer none, .pointer none, .string ⟨#[]⟩, .bool false] 213)) rfl rfl rfl rfl (by rfl) (by go_simp <;> rfl) (hS _ (hb.trans ((za W).mono hb.size))) ?_ ?_
    · exact h001_ B9 W.heap.size _ (hb.trans ((za W).mono hb.size)) (zr _ _ _ _ r9 (za W)) (heap_alloc_new W _) l9 hb.size (fun e => by have := zl _ _ _ r9; omega)
    refine AllReadyH.turn (d := 13) (OP := .alloc 213) (T := 0) (v := .pointer (some ⟨W.heap.size, 0, none⟩)) (w' := W.alloc (.cells #[.pointer none, .pointer none, .string ⟨#[]⟩, .bool false] 213)) rfl rfl rfl rfl (by rfl) (by go_simp <;> rfl) (hS _ (hb.trans ((za W).mono hb.size))) ?_ ?_
    · exact h002_ B9 W.heap.size _ (hb.trans ((za W).mono hb.size)) (zr _ _ _ _ r9 (za W)) (heap_alloc_new W _) l9 hb.size (fun e => by have := zl _ _ _ r9; omega)
    exact AllReadyH.nil
  have h01_ : ∀ (B10 : Nat) (W : World), Below w0.heap.size w0 W → W.heap[B10]? = some (.cells #[.pointer none, .pointer none, .string ⟨#[]⟩, .bool false] 213) → w0.heap.size ≤ B10 → wpAnyH Tryz.prog .any ops9 Q S 8 #[true, true, false, true, true, false, true, true, false, false, true, false, false, false, false] (a.put (some 12) (.pointer (some ⟨B10, 0, none⟩))) W := fun B10 W hb r10 l10 => by
    refine wpAnyH_ready (rs := [2, 9, 11]) (by kernel_rfl) (by simp) ?_
    refine AllReadyH.call (d := 42) (f := 225) (args := #[x2, k2]) (OP := .call { callee := .value (.func 225), args := #[.tmp 40, .tmp 41], argTypes := #[27, 9] }) (T := 213) rfl rfl rfl rfl (by rfl) (by have h1 := e2; have h2 := e2'; simp [Act.eval, go_sem] at h1 h2; simp [execOp, resolve, invoke, go_sem, h1, h2]) ?_ ?_
    · refine (c2 W hb).mono ?_
      rintro e w' ⟨v2, rfl, g2, b'⟩
      have hb' := hb.trans (b'.mono hb.size)
      refine ⟨_, rfl, hS _ hb', ?_⟩
      rw [put_comm (show 12 ≠ 42 by decide)]
      exact h11_ v2 B10 w' hb' g2 (zr _ _ _ _ r10 b') l10
    refine AllReadyH.turn (d := 11) (OP := .alloc 213) (T := 0) (v := .pointer (some ⟨W.heap.size, 0, none⟩)) (w' := W.alloc (.cells #[.pointer none, .pointer none, .string ⟨#[]⟩, .bool false] 213)) rfl rfl rfl rfl (by rfl) (by go_simp <;> rfl) (hS _ (hb.trans ((za W).mono hb.size))) ?_ ?_
    · rw [put_comm (show 12 ≠ 11 by decide)]
      exact h001_ W.heap.size B10 _ (hb.trans ((za W).mono hb.size)) (heap_alloc_new W _) (zr _ _ _ _ r10 (za W)) hb.size l10 (fun e => by have := zl _ _ _ r10; omega)
    refine AllReadyH.turn (d := 13) (OP := .alloc 213) (T := 0) (v := .pointer (some ⟨W.heap.size, 0, none⟩)) (w' := W.alloc (.cells #[.pointer none, .pointer none, .string ⟨#[]⟩, .bool false] 213)) rfl rfl rfl rfl (by rfl) (by go_simp <;> rfl) (hS _ (hb.trans ((za W).mono hb.size))) ?_ ?_
    · exact h012_ B10 W.heap.size _ (hb.trans ((za W).mono hb.size)) (zr _ _ _ _ r10 (za W)) (heap_alloc_new W _) l10 hb.size (fun e => by have := zl _ _ _ r10; omega)
    exact AllReadyH.nil
  have h02_ : ∀ (B11 : Nat) (W : World), Below w0.heap.size w0 W → W.heap[B11]? = some (.cells #[.pointer none, .pointer none, .string ⟨#[]⟩, .bool false] 213) → w0.heap.size ≤ B11 → wpAnyH Tryz.prog .any ops9 Q S 8 #[true, true, false, true, true, false, true, true, false, false, false, true, false, false, false] (a.put (some 13) (.pointer (some ⟨B11, 0, none⟩))) W := fun B11 W hb r11 l11 => by
    refine wpAnyH_ready (rs := [2, 9, 10]) (by kernel_rfl) (by simp) ?_
    refine AllReadyH.call (d := 42) (f := 225) (args := #[x2, k2]) (OP := .call { callee := .value (.func 225), args := #[.tmp 40, .tmp 41], argTypes := #[27, 9] }) (T := 213) rfl rfl rfl rfl (by rfl) (by have h1 := e2; have h2 := e2'; simp [Act.eval, go_sem] at h1 h2; simp [execOp, resolve, invoke, go_sem, h1, h2]) ?_ ?_
    · refine (c2 W hb).mono ?_
      rintro e w' ⟨v2, rfl, g2, b'⟩
      have hb' := hb.trans (b'.mono hb.size)
      refine ⟨_, rfl, hS _ hb', ?_⟩
      rw [put_comm (show 13 ≠ 42 by decide)]
      exact h12_ v2 B11 w' hb' g2 (zr _ _ _ _ r11 b') l11
    refine AllReadyH.turn (d := 11) (OP := .alloc 213) (T := 0) (v := .pointer (some ⟨W.heap.size, 0, none⟩)) (w' := W.alloc (.cells #[.pointer none, .pointer none, .string ⟨#[]⟩, .bool false] 213)) rfl rfl rfl rfl (by rfl) (by go_simp <;> rfl) (hS _ (hb.trans ((za W).mono hb.size))) ?_ ?_
    · rw [put_comm (show 13 ≠ 11 by decide)]
      exact h002_ W.heap.size B11 _ (hb.trans ((za W).mono hb.size)) (heap_alloc_new W _) (zr _ _ _ _ r11 (za W)) hb.size l11 (fun e => by have := zl _ _ _ r11; omega)
    refine AllReadyH.turn (d := 12) (OP := .alloc 213) (T := 0) (v := .pointer (some ⟨W.heap.size, 0, none⟩)) (w' := W.alloc (.cells #[.pointer none, .pointer none, .string ⟨#[]⟩, .bool false] 213)) rfl rfl rfl rfl (by rfl) (by go_simp <;> rfl) (hS _ (hb.trans ((za W).mono hb.size))) ?_ ?_
    · rw [put_comm (show 13 ≠ 12 by decide)]
      exact h012_ W.heap.size B11 _ (hb.trans ((za W).mono hb.size)) (heap_alloc_new W _) (zr _ _ _ _ r11 (za W)) hb.size l11 (fun e => by have := zl _ _ _ r11; omega)
    exact AllReadyH.nil
  have h0_ : ∀ (W : World), Below w0.heap.size w0 W → wpAnyH Tryz.prog .any ops9 Q S 9 #[true, true, false, true, true, false, true, true, false, false, false, false, false, false, false] a W := fun  W hb => by
    refine wpAnyH_ready (rs := [2, 9, 10, 11]) (by kernel_rfl) (by simp) ?_
    refine AllReadyH.call (d := 42) (f := 225) (args := #[x2, k2]) (OP := .call { callee := .value (.func 225), args := #[.tmp 40, .tmp 41], argTypes := #[27, 9] }) (T := 213) rfl rfl rfl rfl (by rfl) (by have h1 := e2; have h2 := e2'; simp [Act.eval, go_sem] at h1 h2; simp [execOp, resolve, invoke, go_sem, h1, h2]) ?_ ?_
    · refine (c2 W hb).mono ?_
      rintro e w' ⟨v2, rfl, g2, b'⟩
      have hb' := hb.trans (b'.mono hb.size)
      refine ⟨_, rfl, hS _ hb', ?_⟩
      exact h1_ v2 w' hb' g2
    refine AllReadyH.turn (d := 11) (OP := .alloc 213) (T := 0) (v := .pointer (some ⟨W.heap.size, 0, none⟩)) (w' := W.alloc (.cells #[.pointer none, .pointer none, .string ⟨#[]⟩, .bool false] 213)) rfl rfl rfl rfl (by rfl) (by go_simp <;> rfl) (hS _ (hb.trans ((za W).mono hb.size))) ?_ ?_
    · exact h00_ W.heap.size _ (hb.trans ((za W).mono hb.size)) (heap_alloc_new W _) hb.size
    refine AllReadyH.turn (d := 12) (OP := .alloc 213) (T := 0) (v := .pointer (some ⟨W.heap.size, 0, none⟩)) (w' := W.alloc (.cells #[.pointer none, .pointer none, .string ⟨#[]⟩, .bool false] 213)) rfl rfl rfl rfl (by rfl) (by go_simp <;> rfl) (hS _ (hb.trans ((za W).mono hb.size))) ?_ ?_
    · exact h01_ W.heap.size _ (hb.trans ((za W).mono hb.size)) (heap_alloc_new W _) hb.size
    refine AllReadyH.turn (d := 13) (OP := .alloc 213) (T := 0) (v := .pointer (some ⟨W.heap.size, 0, none⟩)) (w' := W.alloc (.cells #[.pointer none, .pointer none, .string ⟨#[]⟩, .bool false] 213)) rfl rfl rfl rfl (by rfl) (by go_simp <;> rfl) (hS _ (hb.trans ((za W).mono hb.size))) ?_ ?_
    · exact h02_ W.heap.size _ (hb.trans ((za W).mono hb.size)) (heap_alloc_new W _) hb.size
    exact AllReadyH.nil
  exact h0_ W hW
end Go.Proofs.YtkkpdgfllnbigaaGreat.Pm
