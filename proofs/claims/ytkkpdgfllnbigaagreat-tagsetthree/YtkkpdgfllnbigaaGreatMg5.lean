/-
  PUT, TAKE AND SPLIT, as the program has them; whether keys fit beside a key.
  SPLIT, as the program has it; whether keys fit beside a key.
  MAPS, as the program has them: Len, Height, Root, Same, Map, Get, First, Last, Put, Take, Split, Join, Make.
  MAPS, as the program has them: Get, First, Last, Put, Take, Split, Join, Make.
-/
import Derived.Test.YtkkpdgfllnbigaaGreatMg4
import Derived.OwnWalk
namespace Go.Proofs.YtkkpdgfllnbigaaGreat.Pm
open Go.RowKit Go.Shelf
set_option linter.unusedSimpArgs false


set_option maxHeartbeats 4000000 in
set_option maxRecDepth 100000 in
theorem take_any (N : Nat) : ∀ (t : T) (k : ByteArray) (w : World), t.n ≤ N → In w t → t.n ≤ 700000 →
    Calls Tryz.prog 183 #[t.ptr, .string k] w fun e w' => ∃ t', Gives w e w' t' ∧ Takes w.heap.size k t t' := by
  induction N with
  | zero =>
    intro t k w h0 h _
    have z := t.h_le_n
    have e : t = .nil := T.h_zero (by omega)
    subst e
    simp only [T.ptr]
    go_enter Tryz.func183, Tryz.ntmps183
    go_wp2
    go_ret
    exact ⟨.nil, ⟨rfl, trivial, Below.refl _ _⟩, .none⟩
  | succ N ih =>
    intro t k w h0 h hn
    cases t with
    | nil =>
      simp only [T.ptr]
      go_enter Tryz.func183, Tryz.ntmps183
      go_wp2
      go_ret
      exact ⟨.nil, ⟨rfl, trivial, Below.refl _ _⟩, .none⟩
    | node p nk nv l r =>
      have ihl := fun W (hl : In W l) (hb : l.n ≤ 700000) => ih l k W (by simp only [T.n] at h0; omega) hl hb
      have ihr := fun W (hr : In W r) (hb : r.n ≤ 700000) => ih r k W (by simp only [T.n] at h0; omega) hr hb
      have ihk := fun fk W (hr : In W r) (hb : r.n ≤ 700000) => ih r fk W (by simp only [T.n] at h0; omega) hr hb
      clear ih h0
      obtain ⟨c0, c1, c2, c3, c4, c5⟩ := h.cells
      rcases ord_B.range k nk with hc | hc | hc
      · have hcc : cmpB k nk = -1 := hc
        have hcmp := fun W => compare_is hcc W
        have b1 : ∀ W, Below w.heap.size w W → Calls Tryz.prog 183 #[l.ptr, .string k] W fun e w' => ∃ t', Gives W e w' t' ∧ Takes W.heap.size k l t' := fun W hW => ihl W (In.below hW h.2.1) (by simp only [T.n] at hn; omega)
        have b2 : ∀ W l', Below w.heap.size w W → In W l' → l'.n ≤ l.n + 1 → Calls Tryz.prog 172 #[.pointer (some ⟨p, 0, none⟩), l'.ptr, r.ptr] W fun e w' => ∃ t, Gives W e w' t ∧ Joins W.heap.size p nk nv l r l' r t := fun W l' hW hi hnn => joining_any l' r W (In.below hW h) hi (In.below hW h.2.2) (by simp only [T.n] at hn; omega)
        have HF := hide (show ∀ l' t B C, w.heap.size ≤ B → w.heap.size ≤ C → Takes B k l l' → Joins C p nk nv l r l' r t → Takes w.heap.size k (.node p nk nv l r) t from fun _ _ _ _ hB hC hp hj => .left hcc (hp.mono hB) (hj.mono hC))
        obtain ⟨al, hal⟩ := l.ptr_shape
        obtain ⟨ar, har⟩ := r.ptr_shape
        rw [hal] at c2
        rw [har] at c3
        rw [node_ptr]
        simp only [hal] at b1
        simp only [har] at b2
        have hS : w.cell? ⟨p, 2, none⟩ = some (.pointer al) ∧ w.cell? ⟨p, 3, none⟩ = some (.pointer ar) := ⟨c2, c3⟩
        have tk1 : True := trivial
        have hB0 : Below w.heap.size w w := Below.refl _ w
        clear h hn hc hcc hal har c1 c2 c3 c4 c5 ihl ihr ihk
        go_enter Tryz.func183, Tryz.ntmps183
        go_wp2_with (go_at_call 128; refine (hcmp _).mono ?_; rintro e w' ⟨rfl, hw⟩; replace hw := hw.symm; subst hw)
        go_region_held3 (fun w' => w'.cell? ⟨p, 2, none⟩ = some (.pointer al) ∧ w'.cell? ⟨p, 3, none⟩ = some (.pointer ar)) (first | exact hS | exact keep2 hS (by assumption) | exact keep2 (by assumption) (by assumption))
          (first
            | (go_at_call 183; clear tk1; refine (b1 _ hB0.drew).mono ?_; rintro e w1 ⟨m, hg, hj⟩; have he := hg.1; have hb1 := hg.2.2; have HI1 := hide hg.2.1; have hmn := hj.n; have HJ := hide hj; clear hg hj; obtain ⟨am, ham⟩ := m.ptr_shape; rw [ham] at he; subst he; have hB1 := hB0.drew.trans (hb1.mono hB0.size); have hb22 := b2 w1 m hB1 HI1.out (by omega); rw [ham] at hb22)
            | (go_at_call 172; refine hb22.mono ?_; rintro e w2 ⟨t, hg, hs⟩; have he := hg.1; have hb2 := hg.2.2; have HI2 := hide hg.2.1; have HS := hide hs; clear hg hs; obtain ⟨at_, hat⟩ := t.ptr_shape; have HT := hide hat; rw [hat] at he; subst he; have hB2 := hB1.trans (hb2.mono hB1.size)))
        go_wp2
        go_ret
        exact ⟨t, ⟨by rw [HT.out]; rfl, HI2.out, hB2⟩, HF.out _ _ _ _ (Nat.le_refl _) hB1.size HJ.out HS.out⟩
      · have hcmp := fun W => compare_is hc W
        rw [node_ptr]
        by_cases e1 : l = .nil
        · subst e1
          have HF := hide (show ∃ t', Gives w (.returned r.ptr) w t' ∧ Takes w.heap.size k (.node p nk nv .nil r) t' from ⟨r, ⟨rfl, h.2.2, Below.refl _ _⟩, .onlyR hc⟩)
          obtain ⟨ar, har⟩ := r.ptr_shape
          rw [har] at c3 HF
          simp only [T.ptr] at c2
          clear h hn hc har c1 c4 c5 ihl ihr ihk
          go_enter Tryz.func183, Tryz.ntmps183
          go_wp2_with (go_at_call 128; refine (hcmp _).mono ?_; rintro e w' ⟨rfl, hw⟩; replace hw := hw.symm; subst hw)
          go_ret
          exact HF.out
        · by_cases e2 : r = .nil
          · subst e2
            have HF := hide (show ∃ t', Gives w (.returned l.ptr) w t' ∧ Takes w.heap.size k (.node p nk nv l .nil) t' from ⟨l, ⟨rfl, h.2.1, Below.refl _ _⟩, .onlyL hc e1⟩)
            obtain ⟨q, k', v', a', b', rfl⟩ : ∃ q k' v' a' b', l = .node q k' v' a' b' := by cases l with | nil => exact (e1 rfl).elim | node => exact ⟨_, _, _, _, _, rfl⟩
            simp only [T.ptr] at c2 c3 HF
            clear h hn hc c1 c4 c5 ihl ihr ihk e1
            go_enter Tryz.func183, Tryz.ntmps183
            go_wp2_with (go_at_call 128; refine (hcmp _).mono ?_; rintro e w' ⟨rfl, hw⟩; replace hw := hw.symm; subst hw)
            go_ret
            exact HF.out
          · obtain ⟨fp, fk, fv, fr, rest, hf, _, hsub⟩ := T.first_spec e2
            have hE := end_left r w h.2.2
            have hfi : In w (.node fp fk fv .nil fr) := by have := In.sub hsub h.2.2; rw [hf] at this; exact this
            have f0 := hfi.cells.c0
            rw [hf] at hE
            have b1 : ∀ W, Below w.heap.size w W → Calls Tryz.prog 183 #[r.ptr, .string fk] W fun e w' => ∃ t', Gives W e w' t' ∧ Takes W.heap.size fk r t' := fun W hW => ihk fk W (In.below hW h.2.2) (by simp only [T.n] at hn; omega)
            have b2 : ∀ W r', Below w.heap.size w W → In W r' → r'.n ≤ r.n + 1 → Calls Tryz.prog 172 #[.pointer (some ⟨fp, 0, none⟩), l.ptr, r'.ptr] W fun e w' => ∃ t, Gives W e w' t ∧ Joins W.heap.size fp fk fv .nil fr l r' t := fun W r' hW hi hnn => joining_any l r' W (In.below hW hfi) (In.below hW h.2.1) hi (by simp only [T.n] at hn; omega)
            have HF := hide (show ∀ r' t B C, w.heap.size ≤ B → w.heap.size ≤ C → Takes B fk r r' → Joins C fp fk fv .nil fr l r' t → Takes w.heap.size k (.node p nk nv l r) t from fun _ _ _ _ hB hC hp hj => .both hc e1 e2 hf (hp.mono hB) (hj.mono hC))
            obtain ⟨q, k', v', a', b', rfl⟩ : ∃ q k' v' a' b', l = .node q k' v' a' b' := by cases l with | nil => exact (e1 rfl).elim | node => exact ⟨_, _, _, _, _, rfl⟩
            obtain ⟨s, k'', v'', a'', b'', rfl⟩ : ∃ s k'' v'' a'' b'', r = .node s k'' v'' a'' b'' := by cases r with | nil => exact (e2 rfl).elim | node => exact ⟨_, _, _, _, _, rfl⟩
            rw [node_ptr] at c2 c3
            rw [node_ptr, node_ptr] at hE
            simp only [node_ptr] at b1 b2
            have hS : w.cell? ⟨p, 2, none⟩ = some (.pointer (some ⟨q, 0, none⟩)) ∧ w.cell? ⟨p, 3, none⟩ = some (.pointer (some ⟨s, 0, none⟩)) ∧ w.cell? ⟨fp, 0, none⟩ = some (.string fk) := ⟨c2, c3, f0⟩
            have tk1 : True := trivial
            have hB0 : Below w.heap.size w w := Below.refl _ w
            clear h hn hc c1 c4 c5 ihl ihr ihk e1 e2 hf hsub hfi f0
            go_enter Tryz.func183, Tryz.ntmps183
            go_wp2_with (first
              | (go_at_call 128; refine (hcmp _).mono ?_; rintro e w' ⟨rfl, hw⟩; replace hw := hw.symm; subst hw)
              | (go_at_call 190; refine hE.mono ?_; rintro e w' ⟨rfl, hw⟩; replace hw := hw.symm; subst hw))
            clear c0 c2 c3
            go_region_held3 (fun w' => w'.cell? ⟨p, 2, none⟩ = some (.pointer (some ⟨q, 0, none⟩)) ∧ w'.cell? ⟨p, 3, none⟩ = some (.pointer (some ⟨s, 0, none⟩)) ∧ w'.cell? ⟨fp, 0, none⟩ = some (.string fk)) (first | exact hS | exact keep3 hS (by assumption) | exact keep3 (by assumption) (by assumption))
              (first
                | (go_at_call 183; clear tk1; refine (b1 _ hB0.drew).mono ?_; rintro e w1 ⟨m, hg, hj⟩; have he := hg.1; have hb1 := hg.2.2; have HI1 := hide hg.2.1; have hmn := hj.n; have HJ := hide hj; clear hg hj; obtain ⟨am, ham⟩ := m.ptr_shape; rw [ham] at he; subst he; have hB1 := hB0.drew.trans (hb1.mono hB0.size); have hb22 := b2 w1 m hB1 HI1.out (by omega); rw [ham] at hb22)
                | (go_at_call 172; refine hb22.mono ?_; rintro e w2 ⟨t, hg, hs⟩; have he := hg.1; have hb2 := hg.2.2; have HI2 := hide hg.2.1; have HS := hide hs; clear hg hs; obtain ⟨at_, hat⟩ := t.ptr_shape; have HT := hide hat; rw [hat] at he; subst he; have hB2 := hB1.trans (hb2.mono hB1.size)))
            go_wp2
            go_ret
            exact ⟨t, ⟨by rw [HT.out]; rfl, HI2.out, hB2⟩, HF.out _ _ _ _ (Nat.le_refl _) hB1.size HJ.out HS.out⟩
      · have hcc : cmpB k nk = 1 := hc
        have hcmp := fun W => compare_is hcc W
        have b1 : ∀ W, Below w.heap.size w W → Calls Tryz.prog 183 #[r.ptr, .string k] W fun e w' => ∃ t', Gives W e w' t' ∧ Takes W.heap.size k r t' := fun W hW => ihr W (In.below hW h.2.2) (by simp only [T.n] at hn; omega)
        have b2 : ∀ W r', Below w.heap.size w W → In W r' → r'.n ≤ r.n + 1 → Calls Tryz.prog 172 #[.pointer (some ⟨p, 0, none⟩), l.ptr, r'.ptr] W fun e w' => ∃ t, Gives W e w' t ∧ Joins W.heap.size p nk nv l r l r' t := fun W r' hW hi hnn => joining_any l r' W (In.below hW h) (In.below hW h.2.1) hi (by simp only [T.n] at hn; omega)
        have HF := hide (show ∀ r' t B C, w.heap.size ≤ B → w.heap.size ≤ C → Takes B k r r' → Joins C p nk nv l r l r' t → Takes w.heap.size k (.node p nk nv l r) t from fun _ _ _ _ hB hC hp hj => .right hcc (hp.mono hB) (hj.mono hC))
        obtain ⟨al, hal⟩ := l.ptr_shape
        obtain ⟨ar, har⟩ := r.ptr_shape
        rw [hal] at c2
        rw [har] at c3
        rw [node_ptr]
        simp only [har] at b1
        simp only [hal] at b2
        have hS : w.cell? ⟨p, 2, none⟩ = some (.pointer al) ∧ w.cell? ⟨p, 3, none⟩ = some (.pointer ar) := ⟨c2, c3⟩
        have tk1 : True := trivial
        have hB0 : Below w.heap.size w w := Below.refl _ w
        clear h hn hc hcc hal har c1 c2 c3 c4 c5 ihl ihr ihk
        go_enter Tryz.func183, Tryz.ntmps183
        go_wp2_with (go_at_call 128; refine (hcmp _).mono ?_; rintro e w' ⟨rfl, hw⟩; replace hw := hw.symm; subst hw)
        go_region_held3 (fun w' => w'.cell? ⟨p, 2, none⟩ = some (.pointer al) ∧ w'.cell? ⟨p, 3, none⟩ = some (.pointer ar)) (first | exact hS | exact keep2 hS (by assumption) | exact keep2 (by assumption) (by assumption))
          (first
            | (go_at_call 183; clear tk1; refine (b1 _ hB0.drew).mono ?_; rintro e w1 ⟨m, hg, hj⟩; have he := hg.1; have hb1 := hg.2.2; have HI1 := hide hg.2.1; have hmn := hj.n; have HJ := hide hj; clear hg hj; obtain ⟨am, ham⟩ := m.ptr_shape; rw [ham] at he; subst he; have hB1 := hB0.drew.trans (hb1.mono hB0.size); have hb22 := b2 w1 m hB1 HI1.out (by omega); rw [ham] at hb22)
            | (go_at_call 172; refine hb22.mono ?_; rintro e w2 ⟨t, hg, hs⟩; have he := hg.1; have hb2 := hg.2.2; have HI2 := hide hg.2.1; have HS := hide hs; clear hg hs; obtain ⟨at_, hat⟩ := t.ptr_shape; have HT := hide hat; rw [hat] at he; subst he; have hB2 := hB1.trans (hb2.mono hB1.size)))
        go_wp2
        go_ret
        exact ⟨t, ⟨by rw [HT.out]; rfl, HI2.out, hB2⟩, HF.out _ _ _ _ (Nat.le_refl _) hB1.size HJ.out HS.out⟩
end Go.Proofs.YtkkpdgfllnbigaaGreat.Pm
namespace Go.Proofs.YtkkpdgfllnbigaaGreat.Pm
open Go.RowKit Go.Shelf
set_option linter.unusedSimpArgs false

set_option maxHeartbeats 4000000 in
set_option maxRecDepth 100000 in
theorem split_any (k : ByteArray) (t : T) : ∀ (w : World), In w t → t.n ≤ 700000 →
    Calls Tryz.prog 265 #[t.ptr, .string k] w fun e w' => ∃ a f b, e = .returned (.tuple #[a.ptr, f.ptr, b.ptr]) ∧ Splits w.heap.size k t a f b ∧ In w' a ∧ In w' f ∧ In w' b ∧ Below w.heap.size w w' := by
  induction t with
  | nil =>
    intro w _ _
    simp only [T.ptr]
    go_enter Tryz.func265, Tryz.ntmps265
    go_wp2
    go_ret3
    exact ⟨.nil, .nil, .nil, rfl, .none, trivial, trivial, trivial, Below.refl _ _⟩
  | node p nk nv l r ihl ihr =>
    intro w h hn
    obtain ⟨c0, c1, c2, c3, c4, c5⟩ := h.cells
    rcases ord_B.range k nk with hc | hc | hc
    · have hcmp := fun W => compare_is hc W
      have b1 := ihl w h.2.1 (by simp only [T.n] at hn; omega)
      have b2 : ∀ W b, Below w.heap.size w W → In W b → b.n ≤ l.n → Calls Tryz.prog 172 #[.pointer (some ⟨p, 0, none⟩), b.ptr, r.ptr] W fun e w' => ∃ t, Gives W e w' t ∧ Joins W.heap.size p nk nv l r b r t := fun W b hW hi hnn => joining_any b r W (In.below hW h) hi (In.below hW h.2.2) (by simp only [T.n] at hn; omega)
      have HF := hide (show ∀ a f b t C, w.heap.size ≤ C → Splits w.heap.size k l a f b → Joins C p nk nv l r b r t → Splits w.heap.size k (.node p nk nv l r) a f t from fun _ _ _ _ _ hC hs hj => .left hc hs (hj.mono hC))
      obtain ⟨al, hal⟩ := l.ptr_shape
      obtain ⟨ar, har⟩ := r.ptr_shape
      rw [hal] at c2 b1
      rw [har] at c3
      simp only [har] at b2
      rw [node_ptr]
      clear h hn hc hal har c1 c4 c5 ihl ihr
      go_enter Tryz.func265, Tryz.ntmps265
      go_wp2_with (first
        | (go_at_call 128; refine (hcmp _).mono ?_; rintro e w' ⟨rfl, hw⟩; replace hw := hw.symm; subst hw)
        | (go_at_call 265; refine b1.mono ?_; rintro e w1 ⟨a, f, b, rfl, hs, ia, if_, ib, hb1⟩; obtain ⟨xa, ha⟩ := a.ptr_shape; obtain ⟨xf, hf⟩ := f.ptr_shape; obtain ⟨xb, hb⟩ := b.ptr_shape; have c3' := cell_stays c3 hb1; have hj := b2 w1 b hb1 ib hs.n.2; rw [hb] at hj; rw [ha, hf, hb]; have HS := hide (And.intro hs (And.intro ia (And.intro if_ (And.intro ib (And.intro ha hf))))); clear hs ia if_ ib ha hf hb)
        | (go_at_call 172; refine hj.mono ?_; rintro e w2 ⟨t, ⟨rfl, it, hb2⟩, hjj⟩; obtain ⟨xt, ht⟩ := t.ptr_shape; rw [ht]; have HT := hide (And.intro ht (And.intro it hjj)); clear ht it hjj))
      go_ret3
      exact ⟨a, f, t, by rw [HS.out.2.2.2.2.1, HS.out.2.2.2.2.2, HT.out.1]; rfl, HF.out _ _ _ _ _ hb1.size HS.out.1 HT.out.2.2, In.below hb2 HS.out.2.1, In.below hb2 HS.out.2.2.1, HT.out.2.1, hb1.trans (hb2.mono hb1.size)⟩
    · have hcmp := fun W => compare_is hc W
      have HF := hide (And.intro h (show Splits w.heap.size k (.node p nk nv l r) l (.node p nk nv l r) r from .same hc))
      obtain ⟨al, hal⟩ := l.ptr_shape
      obtain ⟨ar, har⟩ := r.ptr_shape
      rw [hal] at c2
      rw [har] at c3
      rw [node_ptr]
      have HP := hide (And.intro hal har)
      clear h hn hc hal har c1 c4 c5 ihl ihr
      go_enter Tryz.func265, Tryz.ntmps265
      go_wp2_with (go_at_call 128; refine (hcmp _).mono ?_; rintro e w' ⟨rfl, hw⟩; replace hw := hw.symm; subst hw)
      go_quiet (fail)
      go_wp2
      go_ret3
      exact ⟨l, .node p nk nv l r, r, by rw [HP.out.1, HP.out.2]; rfl, HF.out.2, In.below (below_drew w _) HF.out.1.2.1, In.below (below_drew w _) HF.out.1, In.below (below_drew w _) HF.out.1.2.2, below_drew w _⟩
    · have hcmp := fun W => compare_is hc W
      have b1 := ihr w h.2.2 (by simp only [T.n] at hn; omega)
      have b2 : ∀ W a, Below w.heap.size w W → In W a → a.n ≤ r.n → Calls Tryz.prog 172 #[.pointer (some ⟨p, 0, none⟩), l.ptr, a.ptr] W fun e w' => ∃ t, Gives W e w' t ∧ Joins W.heap.size p nk nv l r l a t := fun W a hW hi hnn => joining_any l a W (In.below hW h) (In.below hW h.2.1) hi (by simp only [T.n] at hn; omega)
      have HF := hide (show ∀ a f b t C, w.heap.size ≤ C → Splits w.heap.size k r a f b → Joins C p nk nv l r l a t → Splits w.heap.size k (.node p nk nv l r) t f b from fun _ _ _ _ _ hC hs hj => .right hc hs (hj.mono hC))
      obtain ⟨al, hal⟩ := l.ptr_shape
      obtain ⟨ar, har⟩ := r.ptr_shape
      rw [hal] at c2
      rw [har] at c3 b1
      simp only [hal] at b2
      rw [node_ptr]
      clear h hn hc hal har c1 c4 c5 ihl ihr
      go_enter Tryz.func265, Tryz.ntmps265
      go_wp2_with (first
        | (go_at_call 128; refine (hcmp _).mono ?_; rintro e w' ⟨rfl, hw⟩; replace hw := hw.symm; subst hw)
        | (go_at_call 265; refine b1.mono ?_; rintro e w1 ⟨a, f, b, rfl, hs, ia, if_, ib, hb1⟩; obtain ⟨xa, ha⟩ := a.ptr_shape; obtain ⟨xf, hf⟩ := f.ptr_shape; obtain ⟨xb, hb⟩ := b.ptr_shape; have c2' := cell_stays c2 hb1; have hj := b2 w1 a hb1 ia hs.n.1; rw [ha] at hj; rw [ha, hf, hb]; have HS := hide (And.intro hs (And.intro ia (And.intro if_ (And.intro ib (And.intro hb hf))))); clear hs ia if_ ib ha hf hb)
        | (go_at_call 172; refine hj.mono ?_; rintro e w2 ⟨t, ⟨rfl, it, hb2⟩, hjj⟩; obtain ⟨xt, ht⟩ := t.ptr_shape; rw [ht]; have HT := hide (And.intro ht (And.intro it hjj)); clear ht it hjj))
      go_ret3
      exact ⟨t, f, b, by rw [HS.out.2.2.2.2.1, HS.out.2.2.2.2.2, HT.out.1]; rfl, HF.out _ _ _ _ _ hb1.size HS.out.1 HT.out.2.2, HT.out.2.1, In.below hb2 HS.out.2.2.1, In.below hb2 HS.out.2.2.2.1, hb1.trans (hb2.mono hb1.size)⟩

/-- Whether all keys of l are below k, and all of r above. -/
def fitsB (l : T) (k : ByteArray) (r : T) : Bool := (decide (l = .nil) || decide (cmpB l.last.key k = -1)) && (decide (r = .nil) || decide (cmpB k r.first.key = -1))
theorem fits_is {l r : T} {k : ByteArray} (hl : Srt l.list) (hr : Srt r.list) : fitsB l k r = true ↔ (∀ y ∈ l.list, cmpB y.1 k = -1) ∧ (∀ y ∈ r.list, cmpB k y.1 = -1) := by
  unfold fitsB
  rw [Bool.and_eq_true, Bool.or_eq_true, Bool.or_eq_true, decide_eq_true_eq, decide_eq_true_eq, decide_eq_true_eq, decide_eq_true_eq]
  refine and_congr ?_ ?_
  · by_cases e : l = .nil
    · subst e; simp [T.list]
    · obtain ⟨p, k', v', l', rest, h1, h2, _⟩ := T.last_spec e
      rw [h1, h2]
      rw [h2] at hl
      have hs := (Srt.app (b := [])).1 hl
      constructor
      · rintro (h | h) y hy
        · exact (e h).elim
        · simp only [List.mem_append, List.mem_singleton] at hy
          rcases hy with hy | rfl
          · exact ord_B.trans _ _ _ (hs.2.2.1 y hy) h
          · exact h
      · intro h
        exact .inr (h (k', v') (by simp))
  · by_cases e : r = .nil
    · subst e; simp [T.list]
    · obtain ⟨p, k', v', l', rest, h1, h2, _⟩ := T.first_spec e
      rw [h1, h2]
      rw [h2] at hr
      have hs := (Srt.app (a := [])).1 hr
      constructor
      · rintro (h | h) y hy
        · exact (e h).elim
        · rcases List.mem_cons.1 hy with rfl | hy
          · exact h
          · exact ord_B.trans _ _ _ h (hs.2.2.2 y hy)
      · intro h
        exact .inr (h (k', v') (by simp))
set_option maxHeartbeats 4000000 in
set_option maxRecDepth 100000 in
theorem fits_any (l r : T) (k : ByteArray) (w : World) (hl : In w l) (hr : In w r) : Calls Tryz.prog 266 #[l.ptr, .string k, r.ptr] w fun e w' => e = .returned (.bool (fitsB l k r)) ∧ w' = w := by
  have e1 := end_right l w hl
  have e2 := end_left r w hr
  have tk : True := trivial
  have arms : ∀ (b c : Bool), (b && c) = fitsB l k r → True := fun _ _ _ => trivial
  clear arms
  by_cases n1 : l = .nil
  · subst n1
    by_cases n2 : r = .nil
    · subst n2
      have hf : fitsB .nil k .nil = true := by simp [fitsB]
      rw [hf]
      simp only [T.ptr, T.first, T.last] at e1 e2 ⊢
      clear hl hr hf
      go_enter Tryz.func266, Tryz.ntmps266
      go_wp2_with (first
        | (go_at_call 190; clear tk; refine e1.mono ?_; rintro e w' ⟨rfl, hw⟩; replace hw := hw.symm; subst hw)
        | (go_at_call 190; refine e2.mono ?_; rintro e w' ⟨rfl, hw⟩; replace hw := hw.symm; subst hw))
      go_ret
      exact ⟨rfl, rfl⟩
    · obtain ⟨p, k', v', l', rest, h1, _, h3⟩ := T.first_spec n2
      have hc := (In.sub h3 hr)
      rw [h1] at hc e2
      have c0 := hc.cells.c0
      have hf : fitsB .nil k r = Op.bytesLess k.toList k'.toList := by simp [fitsB, n2, h1, T.key, less_B]
      rw [hf]
      obtain ⟨x, hx⟩ := r.ptr_shape
      rw [hx, node_ptr] at e2
      rw [hx]
      simp only [T.ptr, T.last] at e1 ⊢
      clear hl hr hf n2 h1 h3 hc hx
      go_enter Tryz.func266, Tryz.ntmps266
      go_wp2_with (first
        | (go_at_call 190; clear tk; refine e1.mono ?_; rintro e w' ⟨rfl, hw⟩; replace hw := hw.symm; subst hw)
        | (go_at_call 190; refine e2.mono ?_; rintro e w' ⟨rfl, hw⟩; replace hw := hw.symm; subst hw))
      go_ret
      exact ⟨rfl, rfl⟩
  · obtain ⟨q, kq, vq, lq, restq, g1, _, g3⟩ := T.last_spec n1
    have hq := (In.sub g3 hl)
    rw [g1] at hq e1
    have d0 := hq.cells.c0
    obtain ⟨y, hy⟩ := l.ptr_shape
    rw [hy, node_ptr] at e1
    rw [hy]
    by_cases n2 : r = .nil
    · subst n2
      have hf : fitsB l k .nil = Op.bytesLess kq.toList k.toList := by simp [fitsB, n1, g1, T.key, less_B]
      rw [hf]
      simp only [T.ptr, T.first] at e2 ⊢
      by_cases hb : Op.bytesLess kq.toList k.toList = true
      · rw [hb]
        clear hl hr hf n1 g1 g3 hq hy
        go_enter Tryz.func266, Tryz.ntmps266
        go_wp2_with (first
          | (go_at_call 190; clear tk; refine e1.mono ?_; rintro e w' ⟨rfl, hw⟩; replace hw := hw.symm; subst hw)
          | (go_at_call 190; refine e2.mono ?_; rintro e w' ⟨rfl, hw⟩; replace hw := hw.symm; subst hw))
        go_ret
        exact ⟨rfl, rfl⟩
      · have hb : Op.bytesLess kq.toList k.toList = false := by simpa using hb
        rw [hb]
        clear hl hr hf n1 g1 g3 hq hy
        go_enter Tryz.func266, Tryz.ntmps266
        go_wp2_with (first
          | (go_at_call 190; clear tk; refine e1.mono ?_; rintro e w' ⟨rfl, hw⟩; replace hw := hw.symm; subst hw)
          | (go_at_call 190; refine e2.mono ?_; rintro e w' ⟨rfl, hw⟩; replace hw := hw.symm; subst hw))
        go_ret
        exact ⟨rfl, rfl⟩
    · obtain ⟨p, k', v', l', rest, h1, _, h3⟩ := T.first_spec n2
      have hc := (In.sub h3 hr)
      rw [h1] at hc e2
      have c0 := hc.cells.c0
      have hf : fitsB l k r = (Op.bytesLess kq.toList k.toList && Op.bytesLess k.toList k'.toList) := by simp [fitsB, n1, n2, g1, h1, T.key, less_B]
      rw [hf]
      obtain ⟨x, hx⟩ := r.ptr_shape
      rw [hx, node_ptr] at e2
      rw [hx]
      by_cases hb : Op.bytesLess kq.toList k.toList = true
      · rw [hb, Bool.true_and]
        clear hl hr hf n1 g1 g3 hq hy n2 h1 h3 hc hx
        go_enter Tryz.func266, Tryz.ntmps266
        go_wp2_with (first
          | (go_at_call 190; clear tk; refine e1.mono ?_; rintro e w' ⟨rfl, hw⟩; replace hw := hw.symm; subst hw)
          | (go_at_call 190; refine e2.mono ?_; rintro e w' ⟨rfl, hw⟩; replace hw := hw.symm; subst hw))
        go_ret
        exact ⟨rfl, rfl⟩
      · have hb : Op.bytesLess kq.toList k.toList = false := by simpa using hb
        rw [hb, Bool.false_and]
        clear hl hr hf n1 g1 g3 hq hy n2 h1 h3 hc hx
        go_enter Tryz.func266, Tryz.ntmps266
        go_wp2_with (first
          | (go_at_call 190; clear tk; refine e1.mono ?_; rintro e w' ⟨rfl, hw⟩; replace hw := hw.symm; subst hw)
          | (go_at_call 190; refine e2.mono ?_; rintro e w' ⟨rfl, hw⟩; replace hw := hw.symm; subst hw))
        go_ret
        exact ⟨rfl, rfl⟩
end Go.Proofs.YtkkpdgfllnbigaaGreat.Pm
namespace Go.Proofs.YtkkpdgfllnbigaaGreat.Pm
open Go.RowKit Go.Shelf
set_option linter.unusedSimpArgs false

theorem find_any (t : T) (k : ByteArray) (w : World) (h : In w t) : Calls Tryz.prog 119 #[t.ptr, .string k] w fun e w' => e = .returned (t.find k).ptr ∧ Below w.heap.size w w' := by
  have hb : Below w.heap.size w (w.alloc (.cells #[.string k] 9)) := (Below.refl _ w).alloc (Nat.le_refl _) _
  have hs := seek_find t w.heap.size k (w.alloc (.cells #[.string k] 9)) (In.below hb h) (by rw [cell_of_row _ _ 0 _ 9 (0, 0) (heap_alloc_new w _)]; rfl)
  obtain ⟨a, ha⟩ := t.ptr_shape
  obtain ⟨b, hb'⟩ := (t.find k).ptr_shape
  rw [hb', ha] at hs
  rw [hb', ha]
  clear h ha hb'
  go_enter Tryz.func119, Tryz.ntmps119
  go_wp2_with (go_at_call 173; refine hs.mono ?_; rintro e w' ⟨rfl, n, rfl⟩)
  go_ret
  exact ⟨rfl, hb.trans ((below_drew _ n).mono hb.size)⟩

/-- A map's value. -/
def mv (t : T) : Value := .agg #[t.ptr]
theorem mLen_any (t : T) (w : World) (h : In w t) : Calls Tryz.prog 21 #[mv t] w fun e w' => e = .returned (.int .i64 (t.n : Nat)) ∧ Below w.heap.size w w' := by
  have hb : Below w.heap.size w (w.alloc (.cells #[t.ptr] 27)) := (Below.refl _ w).alloc (Nat.le_refl _) _
  have hs := len_any t _ (In.below hb h)
  unfold mv
  obtain ⟨a, ha⟩ := t.ptr_shape
  rw [ha] at hb hs ⊢
  generalize t.n = N at *
  clear h ha
  go_enter Tryz.func21, Tryz.ntmps21
  go_wp2_with (go_at_call 113; refine hs.mono ?_; rintro e w' ⟨rfl, rfl⟩)
  go_ret
  exact ⟨rfl, hb⟩
theorem mRoot_any (t : T) (w : World) : Calls Tryz.prog 245 #[mv t] w fun e w' => e = .returned t.ptr ∧ Below w.heap.size w w' := by
  have hb : Below w.heap.size w (w.alloc (.cells #[t.ptr] 27)) := (Below.refl _ w).alloc (Nat.le_refl _) _
  unfold mv
  obtain ⟨a, ha⟩ := t.ptr_shape
  rw [ha] at hb ⊢
  clear ha
  go_enter Tryz.func245, Tryz.ntmps245
  go_wp2
  go_ret
  exact ⟨rfl, hb⟩
theorem mSame_any (s t : T) (w : World) (hs : In w s) (ht : In w t) : Calls Tryz.prog 79 #[mv s, mv t] w fun e w' => e = .returned (.bool (decide (s = t))) ∧ Below w.heap.size w w' := by
  have hb : Below w.heap.size w ((w.alloc (.cells #[s.ptr] 27)).alloc (.cells #[t.ptr] 27)) := ((Below.refl _ w).alloc (Nat.le_refl _) _).alloc (by simp) _
  have hq : (binOp .eql 25 s.ptr t.ptr).run Tryz.prog ((w.alloc (.cells #[s.ptr] 27)).alloc (.cells #[t.ptr] 27)) = .ok (.bool (decide (s = t))) ((w.alloc (.cells #[s.ptr] 27)).alloc (.cells #[t.ptr] 27)) := by
    by_cases e : s = t
    · subst e; simp only [decide_true]; exact eql_same s _
    · rw [decide_eq_false e]; exact eql_other (In.below hb hs) (In.below hb ht) e
  unfold mv
  obtain ⟨a, ha⟩ := s.ptr_shape
  obtain ⟨b, hb'⟩ := t.ptr_shape
  rw [ha, hb'] at hb hq ⊢
  generalize decide (s = t) = D at *
  clear ha hb' hs ht
  go_enter Tryz.func79, Tryz.ntmps79
  go_wp2
  go_ret
  exact ⟨rfl, hb⟩
theorem cell_new (w : World) (x : Value) (t : TypeId) : (w.alloc (.cells #[x] t)).cell? ⟨w.heap.size, 0, none⟩ = some x := by
  rw [cell_of_row _ _ 0 _ t (0, 0) (heap_alloc_new w _)]; rfl
theorem Tryz.info27 : (Tryz.prog.info? 27).map (·.size) = some 1 := by kernel_rfl
end Go.Proofs.YtkkpdgfllnbigaaGreat.Pm
namespace Go.Proofs.YtkkpdgfllnbigaaGreat.Pm
open Go.RowKit Go.Shelf
set_option linter.unusedSimpArgs false

theorem In.find {w : World} (k : ByteArray) : ∀ {t : T}, In w t → In w (t.find k)
  | .nil, _ => trivial
  | .node p nk nv l r, h => by
    rw [find_node]
    split
    · exact In.find k h.2.1
    · split
      · exact In.find k h.2.2
      · exact h
def T.isSome : T → Bool
  | .nil => false
  | .node .. => true
theorem isSome_ptr {t : T} {a : Option Addr} (h : t.ptr = .pointer a) : a.isSome = t.isSome ∧ a.isNone = !t.isSome := by
  cases t with
  | nil => simp only [T.ptr, Value.pointer.injEq] at h; subst h; exact ⟨rfl, rfl⟩
  | node => simp only [T.ptr, Value.pointer.injEq] at h; subst h; exact ⟨rfl, rfl⟩
set_option maxHeartbeats 1000000 in
theorem get_any (t : T) (k : ByteArray) (w : World) (h : In w t) : Calls Tryz.prog 26 #[mv t, .string k] w fun e w' => e = .returned (.tuple #[.string (t.find k).val, .bool (t.find k).isSome]) ∧ Below w.heap.size w w' := by
  have hb : Below w.heap.size w (w.alloc (.cells #[t.ptr] 27)) := (Below.refl _ w).alloc (Nat.le_refl _) _
  have hf := find_any t k _ (In.below hb h)
  have hv : ∀ W, Below w.heap.size w W → Calls Tryz.prog 120 #[(t.find k).ptr] W fun e w' => e = .returned (.string (t.find k).val) ∧ w' = W := fun W hW => value_any _ W (In.below hW (In.find k h))
  unfold mv
  obtain ⟨a, ha⟩ := t.ptr_shape
  obtain ⟨b, hb'⟩ := (t.find k).ptr_shape
  have hd := isSome_ptr hb'
  rw [ha] at hb hf ⊢
  rw [hb'] at hf
  simp only [hb'] at hv
  generalize (t.find k).val = V at *
  generalize (t.find k).isSome = D at *
  have hi := hd.2
  clear h ha hb' hd
  go_enter Tryz.func26, Tryz.ntmps26
  go_wp2_with (first
    | (go_at_call 119; refine hf.mono ?_; rintro e w1 ⟨rfl, b1⟩; have hb1 := hb.trans (b1.mono hb.size); have hv1 := hv w1 hb1)
    | (go_at_call 120; refine hv1.mono ?_; rintro e w' ⟨rfl, hw⟩; replace hw := hw.symm; subst hw))
  go_ret2
  exact ⟨by simp, hb1⟩
theorem told_any (t : T) (w : World) (h : In w t) : Calls Tryz.prog 189 #[t.ptr] w fun e w' => e = .returned (.tuple #[.string t.key, .string t.val, .bool t.isSome]) ∧ w' = w := by
  have h1 := key_any t w h
  have h2 := value_any t w h
  obtain ⟨a, ha⟩ := t.ptr_shape
  have hd := (isSome_ptr ha).2
  rw [ha] at h1 h2 ⊢
  generalize t.key = K at *
  generalize t.val = V at *
  generalize t.isSome = D at *
  clear h ha
  go_enter Tryz.func189, Tryz.ntmps189
  go_wp2_with (first
    | (go_at_call 233; refine h1.mono ?_; rintro e w' ⟨rfl, hw⟩; replace hw := hw.symm; subst hw)
    | (go_at_call 120; refine h2.mono ?_; rintro e w' ⟨rfl, hw⟩; replace hw := hw.symm; subst hw))
  go_ret3
  exact ⟨by simp, rfl⟩
theorem In.first {w : World} {t : T} (h : In w t) : In w t.first := by
  by_cases e : t = .nil
  · subst e; trivial
  · obtain ⟨_, _, _, _, _, _, _, hs⟩ := T.first_spec e
    exact In.sub hs h
theorem In.last {w : World} {t : T} (h : In w t) : In w t.last := by
  by_cases e : t = .nil
  · subst e; trivial
  · obtain ⟨_, _, _, _, _, _, _, hs⟩ := T.last_spec e
    exact In.sub hs h
theorem mFirst_any (t : T) (w : World) (h : In w t) : Calls Tryz.prog 145 #[mv t] w fun e w' => e = .returned (.tuple #[.string t.first.key, .string t.first.val, .bool t.first.isSome]) ∧ Below w.heap.size w w' := by
  have hb : Below w.heap.size w (w.alloc (.cells #[t.ptr] 27)) := (Below.refl _ w).alloc (Nat.le_refl _) _
  have h1 := end_left t _ (In.below hb h)
  have h2 := told_any t.first _ (In.below hb h.first)
  unfold mv
  obtain ⟨a, ha⟩ := t.ptr_shape
  obtain ⟨b, hb'⟩ := t.first.ptr_shape
  rw [ha] at hb h1 h2 ⊢
  rw [hb'] at h1 h2
  generalize t.first.key = K at *
  generalize t.first.val = V at *
  generalize t.first.isSome = D at *
  clear h ha hb'
  go_enter Tryz.func145, Tryz.ntmps145
  go_wp2_with (first
    | (go_at_call 190; refine h1.mono ?_; rintro e w' ⟨rfl, rfl⟩)
    | (go_at_call 189; refine h2.mono ?_; rintro e w' ⟨rfl, rfl⟩))
  go_ret3
  exact ⟨rfl, hb⟩
/-- The blocks of a map that came in, and of the one that goes out. -/
theorem two_boxes (w : World) (x : Value) : Below w.heap.size w ((w.alloc (.cells #[x] 27)).alloc (.cells #[.pointer none] 27)) ∧ ((w.alloc (.cells #[x] 27)).alloc (.cells #[.pointer none] 27)).cell? ⟨w.heap.size + 1, 0, none⟩ = some (.pointer none) ∧ ((w.alloc (.cells #[x] 27)).alloc (.cells #[.pointer none] 27)).frozen? ⟨w.heap.size + 1, 0, none⟩ = false := by
  refine ⟨((Below.refl _ w).alloc (Nat.le_refl _) _).alloc (by simp) _, ?_, ?_⟩
  · simp
  · have := frozen_of_row ((w.alloc (.cells #[x] 27)).alloc (.cells #[.pointer none] 27)) (w.heap.size + 1) 0 #[.pointer none] 27 (new2 w _ _).2
    exact this
/-- What is stored into the block that goes out. -/
theorem out_box {w w1 : World} {B : Nat} {y : Value} (hw : w1.heap[B]? = some (.cells #[.pointer none] 27 (0, 0))) (hB : w.heap.size ≤ B) (hb : Below w.heap.size w w1) : (w1.setCell ⟨B, 0, none⟩ y).heap[B]? = some (.cells #[y] 27 (0, 0)) ∧ Below w.heap.size w (w1.setCell ⟨B, 0, none⟩ y) ∧ Only (fun j => j = B) w1 (w1.setCell ⟨B, 0, none⟩ y) := by
  refine ⟨?_, hb.setCell (p := ⟨B, 0, none⟩) hB y, (Only.ofGrown (grown_setCell w1 ⟨B, 0, none⟩ y)).mono (fun j _ e => by simpa using e.symm)⟩
  rw [heap_setCell_same _ _ _ _ 27 _ hw]
  simp
theorem In.only {C : Nat → Prop} {w w' : World} (h : Only C w w') : ∀ {t : T}, In w t → (∀ p, p < w.heap.size → C p → ¬ ∃ k v l r, Sub (.node p k v l r) t) → In w' t
  | .nil, _, _ => trivial
  | .node p k v l r, hi, hC => ⟨(h.block p hi.lt (fun c => hC p hi.lt c ⟨k, v, l, r, .here⟩)).trans hi.1, In.only h hi.2.1 (fun p' hp' c ⟨k', v', l', r', hs⟩ => hC p' hp' c ⟨k', v', l', r', .left hs⟩), In.only h hi.2.2 (fun p' hp' c ⟨k', v', l', r', hs⟩ => hC p' hp' c ⟨k', v', l', r', .right hs⟩)⟩
/-- A block that is no node's. -/
theorem In.aside {w w' : World} {B : Nat} {x : Value} (hw : w.heap[B]? = some (.cells #[x] 27 (0, 0))) (h : Only (fun j => j = B) w w') {t : T} (hi : In w t) : In w' t := by
  refine In.only h hi ?_
  rintro p hp rfl ⟨k, v, l, r, hs⟩
  have := (In.sub hs hi).1
  rw [hw] at this
  simp at this
set_option maxHeartbeats 1000000 in
theorem mPut_any (t : T) (k : ByteArray) (v : ByteArray) (w : World) (h : In w t) (hn : t.n ≤ 700000) : Calls Tryz.prog 25 #[mv t, .string k, .string v] w fun e w' => ∃ t', e = .returned (mv t') ∧ In w' t' ∧ Puts w.heap.size k v t t' ∧ Below w.heap.size w w' := by
  obtain ⟨hb, hc, hf⟩ := two_boxes w t.ptr
  have hB := (new2 w (.cells #[t.ptr] 27) (.cells #[.pointer none] 27)).2
  have hp := put_any k v t _ (In.below hb h) hn
  have key : ∀ w1 t', Gives ((w.alloc (.cells #[t.ptr] 27)).alloc (.cells #[.pointer none] 27)) (.returned t'.ptr) w1 t' → Puts ((w.alloc (.cells #[t.ptr] 27)).alloc (.cells #[.pointer none] 27)).heap.size k v t t' →
      w1.cell? ⟨w.heap.size + 1, 0, none⟩ = some (.pointer none) ∧ w1.frozen? ⟨w.heap.size + 1, 0, none⟩ = false ∧ Hid ((w1.setCell ⟨w.heap.size + 1, 0, none⟩ t'.ptr).heap[w.heap.size + 1]? = some (.cells #[t'.ptr] 27 (0, 0)) ∧ In (w1.setCell ⟨w.heap.size + 1, 0, none⟩ t'.ptr) t' ∧ Puts w.heap.size k v t t' ∧ Below w.heap.size w (w1.setCell ⟨w.heap.size + 1, 0, none⟩ t'.ptr)) := fun w1 t' hg hp => by
    have hw1 := (hg.2.2.block (w.heap.size + 1) (by simp)).trans hB
    have hb1 := hb.trans (hg.2.2.mono hb.size)
    obtain ⟨o1, o2, o3⟩ := out_box (y := t'.ptr) hw1 (by omega) hb1
    refine ⟨by rw [cell_of_row _ _ 0 _ 27 (0, 0) hw1]; rfl, frozen_of_row _ _ 0 _ 27 hw1, hide ⟨o1, In.aside hw1 o3 hg.2.1, hp.mono hb.size, o2⟩⟩
  unfold mv
  obtain ⟨a, ha⟩ := t.ptr_shape
  rw [ha] at hp hb key ⊢
  have HK := hide key
  clear h ha hb hc hf key hB hn
  go_enter Tryz.func25, Tryz.ntmps25
  go_wp2_with (go_at_call 118; refine hp.mono ?_; rintro e w1 ⟨t', hg, hpp⟩; have he := hg.1; subst he; obtain ⟨q1, q2, HQ⟩ := HK.out w1 t' hg hpp; obtain ⟨b, hb⟩ := t'.ptr_shape; have HX := hide hb; rw [hb] at HQ ⊢; clear hb hg hpp)
  refine ret_row (w.heap.size + 1) [.pointer b] rfl rfl Tryz.underlying27 rfl Tryz.info27 HQ.out.1 rfl ?_
  exact ⟨t', by rw [HX.out], HQ.out.2.1, HQ.out.2.2.1, HQ.out.2.2.2⟩
end Go.Proofs.YtkkpdgfllnbigaaGreat.Pm
