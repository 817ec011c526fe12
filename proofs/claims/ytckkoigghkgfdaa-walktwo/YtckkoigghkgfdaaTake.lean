/-
  PUT, TAKE AND SPLIT, as the program has them; whether keys fit beside a key.
-/
import Derived.Test.YtckkoigghkgfdaaPut
namespace Go.Proofs.Ytckkoigghkgfdaa
open Go.RowKit Go.Shelf
set_option linter.unusedSimpArgs false


set_option maxHeartbeats 4000000 in
set_option maxRecDepth 100000 in
theorem take_any (N : Nat) : ∀ (t : T) (k : ByteArray) (w : World), t.n ≤ N → In w t → t.n ≤ 700000 →
    Calls Try.prog 42 #[t.ptr, .string k] w fun e w' => ∃ t', Gives w e w' t' ∧ Takes w.heap.size k t t' := by
  induction N with
  | zero =>
    intro t k w h0 h _
    have z := t.h_le_n
    have e : t = .nil := T.h_zero (by omega)
    subst e
    simp only [T.ptr]
    go_enter Try.func42, Try.ntmps42
    go_wp2
    go_ret
    exact ⟨.nil, ⟨rfl, trivial, Below.refl _ _⟩, .none⟩
  | succ N ih =>
    intro t k w h0 h hn
    cases t with
    | nil =>
      simp only [T.ptr]
      go_enter Try.func42, Try.ntmps42
      go_wp2
      go_ret
      exact ⟨.nil, ⟨rfl, trivial, Below.refl _ _⟩, .none⟩
    | node p nk nv l r =>
      have ihl := fun W (hl : In W l) (hb : l.n ≤ 700000) => ih l k W (by simp only [T.n] at h0; omega) hl hb
      have ihr := fun W (hr : In W r) (hb : r.n ≤ 700000) => ih r k W (by simp only [T.n] at h0; omega) hr hb
      have ihk := fun fk W (hr : In W r) (hb : r.n ≤ 700000) => ih r fk W (by simp only [T.n] at h0; omega) hr hb
      clear ih h0
      obtain ⟨c0, c1, c2, c3, c4, c5⟩ := h.cells
      rcases ord_B.range k nk with hc | hc | hc
      · have hcc : cmpB k nk = -1 := hc
        have hcmp := fun W => compare_is hcc W
        have b1 : ∀ W, Below w.heap.size w W → Calls Try.prog 42 #[l.ptr, .string k] W fun e w' => ∃ t', Gives W e w' t' ∧ Takes W.heap.size k l t' := fun W hW => ihl W (In.below hW h.2.1) (by simp only [T.n] at hn; omega)
        have b2 : ∀ W l', Below w.heap.size w W → In W l' → l'.n ≤ l.n + 1 → Calls Try.prog 62 #[.pointer (some ⟨p, 0, none⟩), l'.ptr, r.ptr] W fun e w' => ∃ t, Gives W e w' t ∧ Joins W.heap.size p nk nv l r l' r t := fun W l' hW hi hnn => joining_any l' r W (In.below hW h) hi (In.below hW h.2.2) (by simp only [T.n] at hn; omega)
        have HF := hide (show ∀ l' t B C, w.heap.size ≤ B → w.heap.size ≤ C → Takes B k l l' → Joins C p nk nv l r l' r t → Takes w.heap.size k (.node p nk nv l r) t from fun _ _ _ _ hB hC hp hj => .left hcc (hp.mono hB) (hj.mono hC))
        obtain ⟨al, hal⟩ := l.ptr_shape
        obtain ⟨ar, har⟩ := r.ptr_shape
        rw [hal] at c2
        rw [har] at c3
        rw [node_ptr]
        simp only [hal] at b1
        simp only [har] at b2
        have hS : w.cell? ⟨p, 2, none⟩ = some (.pointer al) ∧ w.cell? ⟨p, 3, none⟩ = some (.pointer ar) := ⟨c2, c3⟩
        have tk1 : True := trivial
        have hB0 : Below w.heap.size w w := Below.refl _ w
        clear h hn hc hcc hal har c1 c2 c3 c4 c5 ihl ihr ihk
        go_enter Try.func42, Try.ntmps42
        go_wp2_with (go_at_call 49; refine (hcmp _).mono ?_; rintro e w' ⟨rfl, hw⟩; replace hw := hw.symm; subst hw)
        go_region_held3 (fun w' => w'.cell? ⟨p, 2, none⟩ = some (.pointer al) ∧ w'.cell? ⟨p, 3, none⟩ = some (.pointer ar)) (first | exact hS | exact keep2 hS (by assumption) | exact keep2 (by assumption) (by assumption))
          (first
            | (go_at_call 42; clear tk1; refine (b1 _ hB0.drew).mono ?_; rintro e w1 ⟨m, hg, hj⟩; have he := hg.1; have hb1 := hg.2.2; have HI1 := hide hg.2.1; have hmn := hj.n; have HJ := hide hj; clear hg hj; obtain ⟨am, ham⟩ := m.ptr_shape; rw [ham] at he; subst he; have hB1 := hB0.drew.trans (hb1.mono hB0.size); have hb22 := b2 w1 m hB1 HI1.out (by omega); rw [ham] at hb22)
            | (go_at_call 62; refine hb22.mono ?_; rintro e w2 ⟨t, hg, hs⟩; have he := hg.1; have hb2 := hg.2.2; have HI2 := hide hg.2.1; have HS := hide hs; clear hg hs; obtain ⟨at_, hat⟩ := t.ptr_shape; have HT := hide hat; rw [hat] at he; subst he; have hB2 := hB1.trans (hb2.mono hB1.size)))
        go_wp2
        go_ret
        exact ⟨t, ⟨by rw [HT.out]; rfl, HI2.out, hB2⟩, HF.out _ _ _ _ (Nat.le_refl _) hB1.size HJ.out HS.out⟩
      · have hcmp := fun W => compare_is hc W
        rw [node_ptr]
        by_cases e1 : l = .nil
        · subst e1
          have HF := hide (show ∃ t', Gives w (.returned r.ptr) w t' ∧ Takes w.heap.size k (.node p nk nv .nil r) t' from ⟨r, ⟨rfl, h.2.2, Below.refl _ _⟩, .onlyR hc⟩)
          obtain ⟨ar, har⟩ := r.ptr_shape
          rw [har] at c3 HF
          simp only [T.ptr] at c2
          clear h hn hc har c1 c4 c5 ihl ihr ihk
          go_enter Try.func42, Try.ntmps42
          go_wp2_with (go_at_call 49; refine (hcmp _).mono ?_; rintro e w' ⟨rfl, hw⟩; replace hw := hw.symm; subst hw)
          go_ret
          exact HF.out
        · by_cases e2 : r = .nil
          · subst e2
            have HF := hide (show ∃ t', Gives w (.returned l.ptr) w t' ∧ Takes w.heap.size k (.node p nk nv l .nil) t' from ⟨l, ⟨rfl, h.2.1, Below.refl _ _⟩, .onlyL hc e1⟩)
            obtain ⟨q, k', v', a', b', rfl⟩ : ∃ q k' v' a' b', l = .node q k' v' a' b' := by cases l with | nil => exact (e1 rfl).elim | node => exact ⟨_, _, _, _, _, rfl⟩
            simp only [T.ptr] at c2 c3 HF
            clear h hn hc c1 c4 c5 ihl ihr ihk e1
            go_enter Try.func42, Try.ntmps42
            go_wp2_with (go_at_call 49; refine (hcmp _).mono ?_; rintro e w' ⟨rfl, hw⟩; replace hw := hw.symm; subst hw)
            go_ret
            exact HF.out
          · obtain ⟨fp, fk, fv, fr, rest, hf, _, hsub⟩ := T.first_spec e2
            have hE := end_left r w h.2.2
            have hfi : In w (.node fp fk fv .nil fr) := by have := In.sub hsub h.2.2; rw [hf] at this; exact this
            have f0 := hfi.cells.c0
            rw [hf] at hE
            have b1 : ∀ W, Below w.heap.size w W → Calls Try.prog 42 #[r.ptr, .string fk] W fun e w' => ∃ t', Gives W e w' t' ∧ Takes W.heap.size fk r t' := fun W hW => ihk fk W (In.below hW h.2.2) (by simp only [T.n] at hn; omega)
            have b2 : ∀ W r', Below w.heap.size w W → In W r' → r'.n ≤ r.n + 1 → Calls Try.prog 62 #[.pointer (some ⟨fp, 0, none⟩), l.ptr, r'.ptr] W fun e w' => ∃ t, Gives W e w' t ∧ Joins W.heap.size fp fk fv .nil fr l r' t := fun W r' hW hi hnn => joining_any l r' W (In.below hW hfi) (In.below hW h.2.1) hi (by simp only [T.n] at hn; omega)
            have HF := hide (show ∀ r' t B C, w.heap.size ≤ B → w.heap.size ≤ C → Takes B fk r r' → Joins C fp fk fv .nil fr l r' t → Takes w.heap.size k (.node p nk nv l r) t from fun _ _ _ _ hB hC hp hj => .both hc e1 e2 hf (hp.mono hB) (hj.mono hC))
            obtain ⟨q, k', v', a', b', rfl⟩ : ∃ q k' v' a' b', l = .node q k' v' a' b' := by cases l with | nil => exact (e1 rfl).elim | node => exact ⟨_, _, _, _, _, rfl⟩
            obtain ⟨s, k'', v'', a'', b'', rfl⟩ : ∃ s k'' v'' a'' b'', r = .node s k'' v'' a'' b'' := by cases r with | nil => exact (e2 rfl).elim | node => exact ⟨_, _, _, _, _, rfl⟩
            rw [node_ptr] at c2 c3
            rw [node_ptr, node_ptr] at hE
            simp only [node_ptr] at b1 b2
            have hS : w.cell? ⟨p, 2, none⟩ = some (.pointer (some ⟨q, 0, none⟩)) ∧ w.cell? ⟨p, 3, none⟩ = some (.pointer (some ⟨s, 0, none⟩)) ∧ w.cell? ⟨fp, 0, none⟩ = some (.string fk) := ⟨c2, c3, f0⟩
            have tk1 : True := trivial
            have hB0 : Below w.heap.size w w := Below.refl _ w
            clear h hn hc c1 c4 c5 ihl ihr ihk e1 e2 hf hsub hfi f0
            go_enter Try.func42, Try.ntmps42
            go_wp2_with (first
              | (go_at_call 49; refine (hcmp _).mono ?_; rintro e w' ⟨rfl, hw⟩; replace hw := hw.symm; subst hw)
              | (go_at_call 63; refine hE.mono ?_; rintro e w' ⟨rfl, hw⟩; replace hw := hw.symm; subst hw))
            clear c0 c2 c3
            go_region_held3 (fun w' => w'.cell? ⟨p, 2, none⟩ = some (.pointer (some ⟨q, 0, none⟩)) ∧ w'.cell? ⟨p, 3, none⟩ = some (.pointer (some ⟨s, 0, none⟩)) ∧ w'.cell? ⟨fp, 0, none⟩ = some (.string fk)) (first | exact hS | exact keep3 hS (by assumption) | exact keep3 (by assumption) (by assumption))
              (first
                | (go_at_call 42; clear tk1; refine (b1 _ hB0.drew).mono ?_; rintro e w1 ⟨m, hg, hj⟩; have he := hg.1; have hb1 := hg.2.2; have HI1 := hide hg.2.1; have hmn := hj.n; have HJ := hide hj; clear hg hj; obtain ⟨am, ham⟩ := m.ptr_shape; rw [ham] at he; subst he; have hB1 := hB0.drew.trans (hb1.mono hB0.size); have hb22 := b2 w1 m hB1 HI1.out (by omega); rw [ham] at hb22)
                | (go_at_call 62; refine hb22.mono ?_; rintro e w2 ⟨t, hg, hs⟩; have he := hg.1; have hb2 := hg.2.2; have HI2 := hide hg.2.1; have HS := hide hs; clear hg hs; obtain ⟨at_, hat⟩ := t.ptr_shape; have HT := hide hat; rw [hat] at he; subst he; have hB2 := hB1.trans (hb2.mono hB1.size)))
            go_wp2
            go_ret
            exact ⟨t, ⟨by rw [HT.out]; rfl, HI2.out, hB2⟩, HF.out _ _ _ _ (Nat.le_refl _) hB1.size HJ.out HS.out⟩
      · have hcc : cmpB k nk = 1 := hc
        have hcmp := fun W => compare_is hcc W
        have b1 : ∀ W, Below w.heap.size w W → Calls Try.prog 42 #[r.ptr, .string k] W fun e w' => ∃ t', Gives W e w' t' ∧ Takes W.heap.size k r t' := fun W hW => ihr W (In.below hW h.2.2) (by simp only [T.n] at hn; omega)
        have b2 : ∀ W r', Below w.heap.size w W → In W r' → r'.n ≤ r.n + 1 → Calls Try.prog 62 #[.pointer (some ⟨p, 0, none⟩), l.ptr, r'.ptr] W fun e w' => ∃ t, Gives W e w' t ∧ Joins W.heap.size p nk nv l r l r' t := fun W r' hW hi hnn => joining_any l r' W (In.below hW h) (In.below hW h.2.1) hi (by simp only [T.n] at hn; omega)
        have HF := hide (show ∀ r' t B C, w.heap.size ≤ B → w.heap.size ≤ C → Takes B k r r' → Joins C p nk nv l r l r' t → Takes w.heap.size k (.node p nk nv l r) t from fun _ _ _ _ hB hC hp hj => .right hcc (hp.mono hB) (hj.mono hC))
        obtain ⟨al, hal⟩ := l.ptr_shape
        obtain ⟨ar, har⟩ := r.ptr_shape
        rw [hal] at c2
        rw [har] at c3
        rw [node_ptr]
        simp only [har] at b1
        simp only [hal] at b2
        have hS : w.cell? ⟨p, 2, none⟩ = some (.pointer al) ∧ w.cell? ⟨p, 3, none⟩ = some (.pointer ar) := ⟨c2, c3⟩
        have tk1 : True := trivial
        have hB0 : Below w.heap.size w w := Below.refl _ w
        clear h hn hc hcc hal har c1 c2 c3 c4 c5 ihl ihr ihk
        go_enter Try.func42, Try.ntmps42
        go_wp2_with (go_at_call 49; refine (hcmp _).mono ?_; rintro e w' ⟨rfl, hw⟩; replace hw := hw.symm; subst hw)
        go_region_held3 (fun w' => w'.cell? ⟨p, 2, none⟩ = some (.pointer al) ∧ w'.cell? ⟨p, 3, none⟩ = some (.pointer ar)) (first | exact hS | exact keep2 hS (by assumption) | exact keep2 (by assumption) (by assumption))
          (first
            | (go_at_call 42; clear tk1; refine (b1 _ hB0.drew).mono ?_; rintro e w1 ⟨m, hg, hj⟩; have he := hg.1; have hb1 := hg.2.2; have HI1 := hide hg.2.1; have hmn := hj.n; have HJ := hide hj; clear hg hj; obtain ⟨am, ham⟩ := m.ptr_shape; rw [ham] at he; subst he; have hB1 := hB0.drew.trans (hb1.mono hB0.size); have hb22 := b2 w1 m hB1 HI1.out (by omega); rw [ham] at hb22)
            | (go_at_call 62; refine hb22.mono ?_; rintro e w2 ⟨t, hg, hs⟩; have he := hg.1; have hb2 := hg.2.2; have HI2 := hide hg.2.1; have HS := hide hs; clear hg hs; obtain ⟨at_, hat⟩ := t.ptr_shape; have HT := hide hat; rw [hat] at he; subst he; have hB2 := hB1.trans (hb2.mono hB1.size)))
        go_wp2
        go_ret
        exact ⟨t, ⟨by rw [HT.out]; rfl, HI2.out, hB2⟩, HF.out _ _ _ _ (Nat.le_refl _) hB1.size HJ.out HS.out⟩
end Go.Proofs.Ytckkoigghkgfdaa
