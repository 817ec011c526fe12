/-
  PUT, TAKE AND SPLIT, as the program has them; whether keys fit beside a key.
  SPLIT, as the program has it; whether keys fit beside a key.
  MAPS, as the program has them: Len, Height, Root, Same, Map, Get, First, Last, Put, Take, Split, Join, Make.
  MAPS, as the program has them: Get, First, Last, Put, Take, Split, Join, Make.
  A REGION THAT DRAWS ITS ORDER, IN AN ITERATOR: loads beside calls of yield. What yields its value in every world that meets S is taken first, as outside of a fence; a call of yield comes up alone. It names no function of the program.
  Cells that stay.
-/
import Derived.Test.YtkkpdgfllnbigaaGreatDoorMg4
import Derived.OwnWalk
import Derived.Test.YtkkpdgfllnbigaaGreatDoorMg2
import Derived.OrdersHeld
namespace Go.Proofs.YtkkpdgfllnbigaaGreatDoor.Pm
open Go.RowKit Go.Shelf
set_option linter.unusedSimpArgs false


set_option maxHeartbeats 4000000 in
set_option maxRecDepth 100000 in
theorem take_any (N : Nat) : ∀ (t : T) (k : ByteArray) (w : World), t.n ≤ N → In w t → t.n ≤ 700000 →
    Calls Tryz.prog 55 #[t.ptr, .string k] w fun e w' => ∃ t', Gives w e w' t' ∧ Takes w.heap.size k t t' := by
  induction N with
  | zero =>
    intro t k w h0 h _
    have z := t.h_le_n
    have e : t = .nil := T.h_zero (by omega)
    subst e
    simp only [T.ptr]
    go_enter Tryz.func55, Tryz.ntmps55
    go_wp2
    go_ret
    exact ⟨.nil, ⟨rfl, trivial, Below.refl _ _⟩, .none⟩
  | succ N ih =>
    intro t k w h0 h hn
    cases t with
    | nil =>
      simp only [T.ptr]
      go_enter Tryz.func55, Tryz.ntmps55
      go_wp2
      go_ret
      exact ⟨.nil, ⟨rfl, trivial, Below.refl _ _⟩, .none⟩
    | node p nk nv l r =>
      have ihl := fun W (hl : In W l) (hb : l.n ≤ 700000) => ih l k W (by simp only [T.n] at h0; omega) hl hb
      have ihr := fun W (hr : In W r) (hb : r.n ≤ 700000) => ih r k W (by simp only [T.n] at h0; omega) hr hb
      have ihk := fun fk W (hr : In W r) (hb : r.n ≤ 700000) => ih r fk W (by simp only [T.n] at h0; omega) hr hb
      clear ih h0
      obtain ⟨c0, c1, c2, c3, c4, c5⟩ := h.cells
      rcases ord_B.range k nk with hc | hc | hc
      · have hcc : cmpB k nk = -1 := hc
        have hcmp := fun W => compare_is hcc W
        have b1 : ∀ W, Below w.heap.size w W → Calls Tryz.prog 55 #[l.ptr, .string k] W fun e w' => ∃ t', Gives W e w' t' ∧ Takes W.heap.size k l t' := fun W hW => ihl W (In.below hW h.2.1) (by simp only [T.n] at hn; omega)
        have b2 : ∀ W l', Below w.heap.size w W → In W l' → l'.n ≤ l.n + 1 → Calls Tryz.prog 81 #[.pointer (some ⟨p, 0, none⟩), l'.ptr, r.ptr] W fun e w' => ∃ t, Gives W e w' t ∧ Joins W.heap.size p nk nv l r l' r t := fun W l' hW hi hnn => joining_any l' r W (In.below hW h) hi (In.below hW h.2.2) (by simp only [T.n] at hn; omega)
        have HF := hide (show ∀ l' t B C, w.heap.size ≤ B → w.heap.size ≤ C → Takes B k l l' → Joins C p nk nv l r l' r t → Takes w.heap.size k (.node p nk nv l r) t from fun _ _ _ _ hB hC hp hj => .left hcc (hp.mono hB) (hj.mono hC))
        obtain ⟨al, hal⟩ := l.ptr_shape
        obtain ⟨ar, har⟩ := r.ptr_shape
        rw [hal] at c2
        rw [har] at c3
        rw [node_ptr]
        simp only [hal] at b1
        simp only [har] at b2
        have hS : w.cell? ⟨p, 2, none⟩ = some (.pointer al) ∧ w.cell? ⟨p, 3, none⟩ = some (.pointer ar) := ⟨c2, c3⟩
        have tk1 : True := trivial
        have hB0 : Below w.heap.size w w := Below.refl _ w
        clear h hn hc hcc hal har c1 c2 c3 c4 c5 ihl ihr ihk
        go_enter Tryz.func55, Tryz.ntmps55
        go_wp2_with (go_at_call 74; refine (hcmp _).mono ?_; rintro e w' ⟨rfl, hw⟩; replace hw := hw.symm; subst hw)
        go_region_held3 (fun w' => w'.cell? ⟨p, 2, none⟩ = some (.pointer al) ∧ w'.cell? ⟨p, 3, none⟩ = some (.pointer ar)) (first | exact hS | exact keep2 hS (by assumption) | exact keep2 (by assumption) (by assumption))
          (first
            | (go_at_call 55; clear tk1; refine (b1 _ hB0.drew).mono ?_; rintro e w1 ⟨m, hg, hj⟩; have he := hg.1; have hb1 := hg.2.2; have HI1 := hide hg.2.1; have hmn := hj.n; have HJ := hide hj; clear hg hj; obtain ⟨am, ham⟩ := m.ptr_shape; rw [ham] at he; subst he; have hB1 := hB0.drew.trans (hb1.mono hB0.size); have hb22 := b2 w1 m hB1 HI1.out (by omega); rw [ham] at hb22)
            | (go_at_call 81; refine hb22.mono ?_; rintro e w2 ⟨t, hg, hs⟩; have he := hg.1; have hb2 := hg.2.2; have HI2 := hide hg.2.1; have HS := hide hs; clear hg hs; obtain ⟨at_, hat⟩ := t.ptr_shape; have HT := hide hat; rw [hat] at he; subst he; have hB2 := hB1.trans (hb2.mono hB1.size)))
        go_wp2
        go_ret
        exact ⟨t, ⟨by rw [HT.out]; rfl, HI2.out, hB2⟩, HF.out _ _ _ _ (Nat.le_refl _) hB1.size HJ.out HS.out⟩
      · have hcmp := fun W => compare_is hc W
        rw [node_ptr]
        by_cases e1 : l = .nil
        · subst e1
          have HF := hide (show ∃ t', Gives w (.returned r.ptr) w t' ∧ Takes w.heap.size k (.node p nk nv .nil r) t' from ⟨r, ⟨rfl, h.2.2, Below.refl _ _⟩, .onlyR hc⟩)
          obtain ⟨ar, har⟩ := r.ptr_shape
          rw [har] at c3 HF
          simp only [T.ptr] at c2
          clear h hn hc har c1 c4 c5 ihl ihr ihk
          go_enter Tryz.func55, Tryz.ntmps55
          go_wp2_with (go_at_call 74; refine (hcmp _).mono ?_; rintro e w' ⟨rfl, hw⟩; replace hw := hw.symm; subst hw)
          go_ret
          exact HF.out
        · by_cases e2 : r = .nil
          · subst e2
            have HF := hide (show ∃ t', Gives w (.returned l.ptr) w t' ∧ Takes w.heap.size k (.node p nk nv l .nil) t' from ⟨l, ⟨rfl, h.2.1, Below.refl _ _⟩, .onlyL hc e1⟩)
            obtain ⟨q, k', v', a', b', rfl⟩ : ∃ q k' v' a' b', l = .node q k' v' a' b' := by cases l with | nil => exact (e1 rfl).elim | node => exact ⟨_, _, _, _, _, rfl⟩
            simp only [T.ptr] at c2 c3 HF
            clear h hn hc c1 c4 c5 ihl ihr ihk e1
            go_enter Tryz.func55, Tryz.ntmps55
            go_wp2_with (go_at_call 74; refine (hcmp _).mono ?_; rintro e w' ⟨rfl, hw⟩; replace hw := hw.symm; subst hw)
            go_ret
            exact HF.out
          · obtain ⟨fp, fk, fv, fr, rest, hf, _, hsub⟩ := T.first_spec e2
            have hE := end_left r w h.2.2
            have hfi : In w (.node fp fk fv .nil fr) := by have := In.sub hsub h.2.2; rw [hf] at this; exact this
            have f0 := hfi.cells.c0
            rw [hf] at hE
            have b1 : ∀ W, Below w.heap.size w W → Calls Tryz.prog 55 #[r.ptr, .string fk] W fun e w' => ∃ t', Gives W e w' t' ∧ Takes W.heap.size fk r t' := fun W hW => ihk fk W (In.below hW h.2.2) (by simp only [T.n] at hn; omega)
            have b2 : ∀ W r', Below w.heap.size w W → In W r' → r'.n ≤ r.n + 1 → Calls Tryz.prog 81 #[.pointer (some ⟨fp, 0, none⟩), l.ptr, r'.ptr] W fun e w' => ∃ t, Gives W e w' t ∧ Joins W.heap.size fp fk fv .nil fr l r' t := fun W r' hW hi hnn => joining_any l r' W (In.below hW hfi) (In.below hW h.2.1) hi (by simp only [T.n] at hn; omega)
            have HF := hide (show ∀ r' t B C, w.heap.size ≤ B → w.heap.size ≤ C → Takes B fk r r' → Joins C fp fk fv .nil fr l r' t → Takes w.heap.size k (.node p nk nv l r) t from fun _ _ _ _ hB hC hp hj => .both hc e1 e2 hf (hp.mono hB) (hj.mono hC))
            obtain ⟨q, k', v', a', b', rfl⟩ : ∃ q k' v' a' b', l = .node q k' v' a' b' := by cases l with | nil => exact (e1 rfl).elim | node => exact ⟨_, _, _, _, _, rfl⟩
            obtain ⟨s, k'', v'', a'', b'', rfl⟩ : ∃ s k'' v'' a'' b'', r = .node s k'' v'' a'' b'' := by cases r with | nil => exact (e2 rfl).elim | node => exact ⟨_, _, _, _, _, rfl⟩
            rw [node_ptr] at c2 c3
            rw [node_ptr, node_ptr] at hE
            simp only [node_ptr] at b1 b2
            have hS : w.cell? ⟨p, 2, none⟩ = some (.pointer (some ⟨q, 0, none⟩)) ∧ w.cell? ⟨p, 3, none⟩ = some (.pointer (some ⟨s, 0, none⟩)) ∧ w.cell? ⟨fp, 0, none⟩ = some (.string fk) := ⟨c2, c3, f0⟩
            have tk1 : True := trivial
            have hB0 : Below w.heap.size w w := Below.refl _ w
            clear h hn hc c1 c4 c5 ihl ihr ihk e1 e2 hf hsub hfi f0
            go_enter Tryz.func55, Tryz.ntmps55
            go_wp2_with (first
              | (go_at_call 74; refine (hcmp _).mono ?_; rintro e w' ⟨rfl, hw⟩; replace hw := hw.symm; subst hw)
              | (go_at_call 84; refine hE.mono ?_; rintro e w' ⟨rfl, hw⟩; replace hw := hw.symm; subst hw))
            clear c0 c2 c3
            go_region_held3 (fun w' => w'.cell? ⟨p, 2, none⟩ = some (.pointer (some ⟨q, 0, none⟩)) ∧ w'.cell? ⟨p, 3, none⟩ = some (.pointer (some ⟨s, 0, none⟩)) ∧ w'.cell? ⟨fp, 0, none⟩ = some (.string fk)) (first | exact hS | exact keep3 hS (by assumption) | exact keep3 (by assumption) (by assumption))
              (first
                | (go_at_call 55; clear tk1; refine (b1 _ hB0.drew).mono ?_; rintro e w1 ⟨m, hg, hj⟩; have he := hg.1; have hb1 := hg.2.2; have HI1 := hide hg.2.1; have hmn := hj.n; have HJ := hide hj; clear hg hj; obtain ⟨am, ham⟩ := m.ptr_shape; rw [ham] at he; subst he; have hB1 := hB0.drew.trans (hb1.mono hB0.size); have hb22 := b2 w1 m hB1 HI1.out (by omega); rw [ham] at hb22)
                | (go_at_call 81; refine hb22.mono ?_; rintro e w2 ⟨t, hg, hs⟩; have he := hg.1; have hb2 := hg.2.2; have HI2 := hide hg.2.1; have HS := hide hs; clear hg hs; obtain ⟨at_, hat⟩ := t.ptr_shape; have HT := hide hat; rw [hat] at he; subst he; have hB2 := hB1.trans (hb2.mono hB1.size)))
            go_wp2
            go_ret
            exact ⟨t, ⟨by rw [HT.out]; rfl, HI2.out, hB2⟩, HF.out _ _ _ _ (Nat.le_refl _) hB1.size HJ.out HS.out⟩
      · have hcc : cmpB k nk = 1 := hc
        have hcmp := fun W => compare_is hcc W
        have b1 : ∀ W, Below w.heap.size w W → Calls Tryz.prog 55 #[r.ptr, .string k] W fun e w' => ∃ t', Gives W e w' t' ∧ Takes W.heap.size k r t' := fun W hW => ihr W (In.below hW h.2.2) (by simp only [T.n] at hn; omega)
        have b2 : ∀ W r', Below w.heap.size w W → In W r' → r'.n ≤ r.n + 1 → Calls Tryz.prog 81 #[.pointer (some ⟨p, 0, none⟩), l.ptr, r'.ptr] W fun e w' => ∃ t, Gives W e w' t ∧ Joins W.heap.size p nk nv l r l r' t := fun W r' hW hi hnn => joining_any l r' W (In.below hW h) (In.below hW h.2.1) hi (by simp only [T.n] at hn; omega)
        have HF := hide (show ∀ r' t B C, w.heap.size ≤ B → w.heap.size ≤ C → Takes B k r r' → Joins C p nk nv l r l r' t → Takes w.heap.size k (.node p nk nv l r) t from fun _ _ _ _ hB hC hp hj => .right hcc (hp.mono hB) (hj.mono hC))
        obtain ⟨al, hal⟩ := l.ptr_shape
        obtain ⟨ar, har⟩ := r.ptr_shape
        rw [hal] at c2
        rw [har] at c3
        rw [node_ptr]
        simp only [har] at b1
        simp only [hal] at b2
        have hS : w.cell? ⟨p, 2, none⟩ = some (.pointer al) ∧ w.cell? ⟨p, 3, none⟩ = some (.pointer ar) := ⟨c2, c3⟩
        have tk1 : True := trivial
        have hB0 : Below w.heap.size w w := Below.refl _ w
        clear h hn hc hcc hal har c1 c2 c3 c4 c5 ihl ihr ihk
        go_enter Tryz.func55, Tryz.ntmps55
        go_wp2_with (go_at_call 74; refine (hcmp _).mono ?_; rintro e w' ⟨rfl, hw⟩; replace hw := hw.symm; subst hw)
        go_region_held3 (fun w' => w'.cell? ⟨p, 2, none⟩ = some (.pointer al) ∧ w'.cell? ⟨p, 3, none⟩ = some (.pointer ar)) (first | exact hS | exact keep2 hS (by assumption) | exact keep2 (by assumption) (by assumption))
          (first
            | (go_at_call 55; clear tk1; refine (b1 _ hB0.drew).mono ?_; rintro e w1 ⟨m, hg, hj⟩; have he := hg.1; have hb1 := hg.2.2; have HI1 := hide hg.2.1; have hmn := hj.n; have HJ := hide hj; clear hg hj; obtain ⟨am, ham⟩ := m.ptr_shape; rw [ham] at he; subst he; have hB1 := hB0.drew.trans (hb1.mono hB0.size); have hb22 := b2 w1 m hB1 HI1.out (by omega); rw [ham] at hb22)
            | (go_at_call 81; refine hb22.mono ?_; rintro e w2 ⟨t, hg, hs⟩; have he := hg.1; have hb2 := hg.2.2; have HI2 := hide hg.2.1; have HS := hide hs; clear hg hs; obtain ⟨at_, hat⟩ := t.ptr_shape; have HT := hide hat; rw [hat] at he; subst he; have hB2 := hB1.trans (hb2.mono hB1.size)))
        go_wp2
        go_ret
        exact ⟨t, ⟨by rw [HT.out]; rfl, HI2.out, hB2⟩, HF.out _ _ _ _ (Nat.le_refl _) hB1.size HJ.out HS.out⟩
end Go.Proofs.YtkkpdgfllnbigaaGreatDoor.Pm
namespace Go.Proofs.YtkkpdgfllnbigaaGreatDoor.Pm
open Go.RowKit Go.Shelf
set_option linter.unusedSimpArgs false

end Go.Proofs.YtkkpdgfllnbigaaGreatDoor.Pm
namespace Go.Proofs.YtkkpdgfllnbigaaGreatDoor.Pm
open Go.RowKit Go.Shelf
set_option linter.unusedSimpArgs false

theorem find_any (t : T) (k : ByteArray) (w : World) (h : In w t) : Calls Tryz.prog 50 #[t.ptr, .string k] w fun e w' => e = .returned (t.find k).ptr ∧ Below w.heap.size w w' := by
  have hb : Below w.heap.size w (w.alloc (.cells #[.string k] 9)) := (Below.refl _ w).alloc (Nat.le_refl _) _
  have hs := seek_find t w.heap.size k (w.alloc (.cells #[.string k] 9)) (In.below hb h) (by rw [cell_of_row _ _ 0 _ 9 (0, 0) (heap_alloc_new w _)]; rfl)
  obtain ⟨a, ha⟩ := t.ptr_shape
  obtain ⟨b, hb'⟩ := (t.find k).ptr_shape
  rw [hb', ha] at hs
  rw [hb', ha]
  clear h ha hb'
  go_enter Tryz.func50, Tryz.ntmps50
  go_wp2_with (go_at_call 79; refine hs.mono ?_; rintro e w' ⟨rfl, n, rfl⟩)
  go_ret
  exact ⟨rfl, hb.trans ((below_drew _ n).mono hb.size)⟩

/-- A map's value. -/
def mv (t : T) : Value := .agg #[t.ptr]
theorem mLen_any (t : T) (w : World) (h : In w t) : Calls Tryz.prog 77 #[mv t] w fun e w' => e = .returned (.int .i64 (t.n : Nat)) ∧ Below w.heap.size w w' := by
  have hb : Below w.heap.size w (w.alloc (.cells #[t.ptr] 43)) := (Below.refl _ w).alloc (Nat.le_refl _) _
  have hs := len_any t _ (In.below hb h)
  unfold mv
  obtain ⟨a, ha⟩ := t.ptr_shape
  rw [ha] at hb hs ⊢
  generalize t.n = N at *
  clear h ha
  go_enter Tryz.func77, Tryz.ntmps77
  go_wp2_with (go_at_call 76; refine hs.mono ?_; rintro e w' ⟨rfl, rfl⟩)
  go_ret
  exact ⟨rfl, hb⟩
theorem cell_new (w : World) (x : Value) (t : TypeId) : (w.alloc (.cells #[x] t)).cell? ⟨w.heap.size, 0, none⟩ = some x := by
  rw [cell_of_row _ _ 0 _ t (0, 0) (heap_alloc_new w _)]; rfl
theorem Tryz.info43 : (Tryz.prog.info? 43).map (·.size) = some 1 := by kernel_rfl
end Go.Proofs.YtkkpdgfllnbigaaGreatDoor.Pm
namespace Go.Proofs.YtkkpdgfllnbigaaGreatDoor.Pm
open Go.RowKit Go.Shelf
set_option linter.unusedSimpArgs false

theorem In.find {w : World} (k : ByteArray) : ∀ {t : T}, In w t → In w (t.find k)
  | .nil, _ => trivial
  | .node p nk nv l r, h => by
    rw [find_node]
    split
    · exact In.find k h.2.1
    · split
      · exact In.find k h.2.2
      · exact h
def T.isSome : T → Bool
  | .nil => false
  | .node .. => true
theorem isSome_ptr {t : T} {a : Option Addr} (h : t.ptr = .pointer a) : a.isSome = t.isSome ∧ a.isNone = !t.isSome := by
  cases t with
  | nil => simp only [T.ptr, Value.pointer.injEq] at h; subst h; exact ⟨rfl, rfl⟩
  | node => simp only [T.ptr, Value.pointer.injEq] at h; subst h; exact ⟨rfl, rfl⟩
set_option maxHeartbeats 1000000 in
theorem get_any (t : T) (k : ByteArray) (w : World) (h : In w t) : Calls Tryz.prog 31 #[mv t, .string k] w fun e w' => e = .returned (.tuple #[.string (t.find k).val, .bool (t.find k).isSome]) ∧ Below w.heap.size w w' := by
  have hb : Below w.heap.size w (w.alloc (.cells #[t.ptr] 43)) := (Below.refl _ w).alloc (Nat.le_refl _) _
  have hf := find_any t k _ (In.below hb h)
  have hv : ∀ W, Below w.heap.size w W → Calls Tryz.prog 51 #[(t.find k).ptr] W fun e w' => e = .returned (.string (t.find k).val) ∧ w' = W := fun W hW => value_any _ W (In.below hW (In.find k h))
  unfold mv
  obtain ⟨a, ha⟩ := t.ptr_shape
  obtain ⟨b, hb'⟩ := (t.find k).ptr_shape
  have hd := isSome_ptr hb'
  rw [ha] at hb hf ⊢
  rw [hb'] at hf
  simp only [hb'] at hv
  generalize (t.find k).val = V at *
  generalize (t.find k).isSome = D at *
  have hi := hd.2
  clear h ha hb' hd
  go_enter Tryz.func31, Tryz.ntmps31
  go_wp2_with (first
    | (go_at_call 50; refine hf.mono ?_; rintro e w1 ⟨rfl, b1⟩; have hb1 := hb.trans (b1.mono hb.size); have hv1 := hv w1 hb1)
    | (go_at_call 51; refine hv1.mono ?_; rintro e w' ⟨rfl, hw⟩; replace hw := hw.symm; subst hw))
  go_ret2
  exact ⟨by simp, hb1⟩
theorem In.first {w : World} {t : T} (h : In w t) : In w t.first := by
  by_cases e : t = .nil
  · subst e; trivial
  · obtain ⟨_, _, _, _, _, _, _, hs⟩ := T.first_spec e
    exact In.sub hs h
/-- The blocks of a map that came in, and of the one that goes out. -/
theorem two_boxes (w : World) (x : Value) : Below w.heap.size w ((w.alloc (.cells #[x] 43)).alloc (.cells #[.pointer none] 43)) ∧ ((w.alloc (.cells #[x] 43)).alloc (.cells #[.pointer none] 43)).cell? ⟨w.heap.size + 1, 0, none⟩ = some (.pointer none) ∧ ((w.alloc (.cells #[x] 43)).alloc (.cells #[.pointer none] 43)).frozen? ⟨w.heap.size + 1, 0, none⟩ = false := by
  refine ⟨((Below.refl _ w).alloc (Nat.le_refl _) _).alloc (by simp) _, ?_, ?_⟩
  · simp
  · have := frozen_of_row ((w.alloc (.cells #[x] 43)).alloc (.cells #[.pointer none] 43)) (w.heap.size + 1) 0 #[.pointer none] 43 (new2 w _ _).2
    exact this
/-- What is stored into the block that goes out. -/
theorem out_box {w w1 : World} {B : Nat} {y : Value} (hw : w1.heap[B]? = some (.cells #[.pointer none] 43 (0, 0))) (hB : w.heap.size ≤ B) (hb : Below w.heap.size w w1) : (w1.setCell ⟨B, 0, none⟩ y).heap[B]? = some (.cells #[y] 43 (0, 0)) ∧ Below w.heap.size w (w1.setCell ⟨B, 0, none⟩ y) ∧ Only (fun j => j = B) w1 (w1.setCell ⟨B, 0, none⟩ y) := by
  refine ⟨?_, hb.setCell (p := ⟨B, 0, none⟩) hB y, (Only.ofGrown (grown_setCell w1 ⟨B, 0, none⟩ y)).mono (fun j _ e => by simpa using e.symm)⟩
  rw [heap_setCell_same _ _ _ _ 43 _ hw]
  simp
theorem In.only {C : Nat → Prop} {w w' : World} (h : Only C w w') : ∀ {t : T}, In w t → (∀ p, p < w.heap.size → C p → ¬ ∃ k v l r, Sub (.node p k v l r) t) → In w' t
  | .nil, _, _ => trivial
  | .node p k v l r, hi, hC => ⟨(h.block p hi.lt (fun c => hC p hi.lt c ⟨k, v, l, r, .here⟩)).trans hi.1, In.only h hi.2.1 (fun p' hp' c ⟨k', v', l', r', hs⟩ => hC p' hp' c ⟨k', v', l', r', .left hs⟩), In.only h hi.2.2 (fun p' hp' c ⟨k', v', l', r', hs⟩ => hC p' hp' c ⟨k', v', l', r', .right hs⟩)⟩
/-- A block that is no node's. -/
theorem In.aside {w w' : World} {B : Nat} {x : Value} (hw : w.heap[B]? = some (.cells #[x] 43 (0, 0))) (h : Only (fun j => j = B) w w') {t : T} (hi : In w t) : In w' t := by
  refine In.only h hi ?_
  rintro p hp rfl ⟨k, v, l, r, hs⟩
  have := (In.sub hs hi).1
  rw [hw] at this
  simp at this
set_option maxHeartbeats 1000000 in
theorem mPut_any (t : T) (k : ByteArray) (v : ByteArray) (w : World) (h : In w t) (hn : t.n ≤ 700000) : Calls Tryz.prog 32 #[mv t, .string k, .string v] w fun e w' => ∃ t', e = .returned (mv t') ∧ In w' t' ∧ Puts w.heap.size k v t t' ∧ Below w.heap.size w w' := by
  obtain ⟨hb, hc, hf⟩ := two_boxes w t.ptr
  have hB := (new2 w (.cells #[t.ptr] 43) (.cells #[.pointer none] 43)).2
  have hp := put_any k v t _ (In.below hb h) hn
  have key : ∀ w1 t', Gives ((w.alloc (.cells #[t.ptr] 43)).alloc (.cells #[.pointer none] 43)) (.returned t'.ptr) w1 t' → Puts ((w.alloc (.cells #[t.ptr] 43)).alloc (.cells #[.pointer none] 43)).heap.size k v t t' →
      w1.cell? ⟨w.heap.size + 1, 0, none⟩ = some (.pointer none) ∧ w1.frozen? ⟨w.heap.size + 1, 0, none⟩ = false ∧ Hid ((w1.setCell ⟨w.heap.size + 1, 0, none⟩ t'.ptr).heap[w.heap.size + 1]? = some (.cells #[t'.ptr] 43 (0, 0)) ∧ In (w1.setCell ⟨w.heap.size + 1, 0, none⟩ t'.ptr) t' ∧ Puts w.heap.size k v t t' ∧ Below w.heap.size w (w1.setCell ⟨w.heap.size + 1, 0, none⟩ t'.ptr)) := fun w1 t' hg hp => by
    have hw1 := (hg.2.2.block (w.heap.size + 1) (by simp)).trans hB
    have hb1 := hb.trans (hg.2.2.mono hb.size)
    obtain ⟨o1, o2, o3⟩ := out_box (y := t'.ptr) hw1 (by omega) hb1
    refine ⟨by rw [cell_of_row _ _ 0 _ 43 (0, 0) hw1]; rfl, frozen_of_row _ _ 0 _ 43 hw1, hide ⟨o1, In.aside hw1 o3 hg.2.1, hp.mono hb.size, o2⟩⟩
  unfold mv
  obtain ⟨a, ha⟩ := t.ptr_shape
  rw [ha] at hp hb key ⊢
  have HK := hide key
  clear h ha hb hc hf key hB hn
  go_enter Tryz.func32, Tryz.ntmps32
  go_wp2_with (go_at_call 52; refine hp.mono ?_; rintro e w1 ⟨t', hg, hpp⟩; have he := hg.1; subst he; obtain ⟨q1, q2, HQ⟩ := HK.out w1 t' hg hpp; obtain ⟨b, hb⟩ := t'.ptr_shape; have HX := hide hb; rw [hb] at HQ ⊢; clear hb hg hpp)
  refine ret_row (w.heap.size + 1) [.pointer b] rfl rfl Tryz.underlying43 rfl Tryz.info43 HQ.out.1 rfl ?_
  exact ⟨t', by rw [HX.out], HQ.out.2.1, HQ.out.2.2.1, HQ.out.2.2.2⟩
end Go.Proofs.YtkkpdgfllnbigaaGreatDoor.Pm
namespace Go.Proofs.YtkkpdgfllnbigaaGreatDoor.Pm
open Go.RowKit

section
variable {P : Program} {ops : Array Oper} {Q : Exit → Act → World → Prop} {n : Nat} {S : World → Prop}

/-- What comes up, whichever, leaves S. -/
def HIn (n : Nat) (P : Program) (ops : Array Oper) (Q : Exit → Act → World → Prop) (S : World → Prop) : Nat → Array Bool → Act → World → Prop
  | 0, listed, a, w => Region.ready .any ops listed = [] ∧ Q .normal a w
  | f + 1, listed, a, w => (Region.ready .any ops listed = [] → Q .normal a w) ∧ ∀ i ∈ Region.ready .any ops listed, wpOpIn Fence.wide n P ops Q i (fun a' w' => S w' ∧ HIn n P ops Q S f (listed.setIfInBounds i true) a' w') a w
theorem HIn.plain : ∀ {f : Nat} {listed : Array Bool} {a : Act} {w : World}, HIn n P ops Q S f listed a w → wpAnyIn Fence.wide n P .any ops Q f listed a w
  | 0, _, _, _, h => h
  | _ + 1, _, _, _, h => ⟨h.1, fun i hi => wpOpIn_mono (fun _ _ k => k.2.plain) (h.2 i hi)⟩

/-- An operation turns its own temporary alone, and what is deferred. -/
theorem in_shape {j : Nat} {oj : Oper} {K : Act → World → Prop} {a : Act} {w : World} (hj : ops[j]? = some oj) (h : wpOpIn Fence.wide n P ops Q j K a w) :
    wpOpIn Fence.wide n P ops Q j (fun a' w' => K a' w' ∧ ∃ u ds, a' = ({ a with defers := ds } : Act).put oj.dst u) a w := by
  unfold wpOpIn at *
  simp only [hj] at *
  by_cases hw : Region.wanted oj (yielded ops a.tmps) = true
  · rw [if_pos hw] at h ⊢
    refine ⟨h.1, ?_⟩
    have h := h.2
    generalize (oj.semAt Fence.wide.round a.eval).run P w = r at h ⊢
    rcases r with ⟨x, w'⟩ | ⟨x, w'⟩
    · cases x with
      | value v => exact ⟨h, v, a.defers, rfl⟩
      | skip => exact ⟨h, undef, a.defers, rfl⟩
      | defer d => exact ⟨h, undef, d :: a.defers, rfl⟩
      | enter f args =>
        refine ⟨h.1, h.2.mono fun e w'' he => ?_⟩
        rcases e with v | c | _
        · exact ⟨he, v, a.defers, rfl⟩
        · exact he
        · exact he
      | row r args => exact ⟨h.1, h.2.mono fun v w'' he => ⟨he, v, a.defers, rfl⟩⟩
      | round l f ts asg b =>
        refine ⟨h.1, h.2.mono fun e w'' he => ?_⟩
        rcases e with v | c | _
        · exact ⟨he, v, a.defers, rfl⟩
        · exact he
        · exact he
      | _ => exact h
    · cases x <;> exact h
  · rw [if_neg hw] at h ⊢
    exact ⟨h.1, h.2, undef, a.defers, rfl⟩

/-- One that is apart from a quiet one: both ways round. -/
theorem in_swap {j : Nat} {oi oj : Oper} {v : Value} {K : Act → World → Prop} {a : Act} {w : World} (hj : ops[j]? = some oj) (hap : oi.apart ops oj = true)
    (hsi : ∀ cs b, oi.op ≠ .select cs b) (hsj : ∀ cs b, oj.op ≠ .select cs b) (hQ : ∀ c a w, Q (.panic c) (a.put oi.dst v) w → Q (.panic c) a w)
    (hy : YieldsIf P ops S oi v a) (h : wpOpIn Fence.wide n P ops Q j K (a.put oi.dst v) w) :
    wpOpIn Fence.wide n P ops Q j (fun a' w' => YieldsIf P ops S oi v a' ∧ K (a'.put oi.dst v) w') a w := by
  obtain ⟨h1, h2, h3⟩ := Oper.apart_spec hap
  -- an operation that merely says v stands for the quiet one
  obtain ⟨o, ho⟩ : ∃ o : Oper, o = { oi with op := .move (.const v), guard := none } := ⟨_, rfl⟩
  have hd : o.dst = oi.dst := by rw [ho]
  have hl : o.looksAt ops = [] := by rw [ho]; simp [Oper.looksAt, Op.operands]
  have hapo : o.apart ops oj = true := by
    unfold Oper.apart
    rw [hd, hl]
    simp only [Bool.and_eq_true]
    refine ⟨?_, by cases oj.dst <;> rfl⟩
    cases e : oi.dst with
    | none => rfl
    | some d => simp [h1 d e, h2 d e]
  have hyo : YieldsFenced P ops o v a := by
    refine ⟨.inl ⟨by rw [ho]; rfl, fun w => ?_⟩, fun w => by rw [ho]; rfl⟩
    rw [ho]
    simp [execOp, Act.eval]
  have hh := wpOpIn_put (F := Fence.wide) (oi := o) rfl hj hapo (by rw [ho]; intro cs b e; cases e) hsj (by rw [hd]; exact hQ) hyo (by rw [hd]; exact h)
  rw [hd] at hh
  refine wpOpIn_mono ?_ (in_shape hj hh)
  rintro a' w' ⟨⟨_, hk⟩, u, ds, rfl⟩
  refine ⟨hy.of_same ?_ ?_, hk⟩
  · rw [execOp_put oi hsi _ oj.dst u h3]; rfl
  · rw [wanted_put oi _ oj.dst u h3]

/-- A quiet operation that may come up is taken first. -/
theorem HIn.take {i : Nat} {oi : Oper} {v : Value} (hi : ops[i]? = some oi) (hs : Region.noSelect ops = true) (hQ : ∀ c a w, Q (.panic c) (a.put oi.dst v) w → Q (.panic c) a w) :
    ∀ (f : Nat) {listed : Array Bool} {a : Act} {w : World}, Region.free .any ops listed i = true → i ∈ Region.ready .any ops listed → YieldsIf P ops S oi v a → S w →
      HIn n P ops Q S f (listed.setIfInBounds i true) (a.put oi.dst v) w → HIn n P ops Q S (f + 1) listed a w
  | f, listed, a, w, hf, hr, hy, hS, h => by
    refine ⟨fun e => absurd (e ▸ hr) List.not_mem_nil, fun j hj => ?_⟩
    by_cases e : j = i
    · subst e
      unfold wpOpIn
      simp only [hi]
      rcases hy with ⟨hw, hv⟩ | ⟨hw, rfl⟩
      · rw [if_pos hw]
        refine ⟨fun _ _ => trivial, ?_⟩
        rw [show oi.semAt Fence.wide.round a.eval = execOp a.eval oi from Oper.semAt_none _ _, hv w hS]
        exact ⟨hS, h⟩
      · rw [if_neg (by rw [hw]; exact Bool.false_ne_true)]
        exact ⟨fun _ _ => trivial, hS, h⟩
    · have hj2 := ready_mono hj e
      cases f with
      | zero => rw [h.1] at hj2; exact absurd hj2 List.not_mem_nil
      | succ f =>
        obtain ⟨hun, oj, hoj, hall⟩ := mem_ready.1 hj
        have hun_i := (mem_ready.1 hr).1
        have hnot : ∀ x ∈ oj.after, Region.binds .any x = true → x.on ≠ i := fun x hx hb he => by
          have q := hall x hx hb
          rw [he] at q
          simp only [Array.getD_eq_getD_getElem?] at q hun_i
          cases hq : listed[i]? with
          | none => rw [hq] at q; cases q
          | some b => rw [hq] at q hun_i; simp only [Option.getD_some] at q hun_i; rw [q] at hun_i; cases hun_i
        refine wpOpIn_mono (fun a' w' k => ⟨k.2.1, HIn.take hi hs hQ f ?_ (ready_mono hr (fun x => e x.symm)) k.1 k.2.1 ?_⟩) (in_swap hoj (Region.free_spec hi hf j oj hoj e hun hnot) (fun cs b => Region.noSelect_spec hs i oi cs b hi) (fun cs b => Region.noSelect_spec hs j oj cs b hoj) hQ hy (h.2 j hj2))
        · simp only [Region.free, hi, List.all_eq_true, List.mem_range] at hf ⊢
          intro k hk
          have := hf k hk
          by_cases ejk : j = k
          · subst ejk
            rw [hoj] at this ⊢
            have hlt : j < listed.size := by
              rcases Nat.lt_or_ge j listed.size with q | q
              · exact q
              · rw [Array.getD_eq_getD_getElem?, Array.getElem?_eq_none q] at hun; cases hun
            simp [hlt]
          · rw [getD_set_ne true ejk]
            exact this
        · rw [Array.setIfInBounds_comm _ _ e]
          exact k.2.2

theorem in_region {id : Nat} {a : Act} {w : World} (hm : P.follows .mixedOrders = true) (hS : S w.drew) (h : S w.drew → HIn n P ops Q S ops.size (Array.replicate ops.size false) a w.drew) : (Code.region id ops true).wpIn Fence.wide n P Q a w :=
  wpIn_region_any hm (h hS).plain
theorem in_done {f : Nat} {listed : Array Bool} {a : Act} {w : World} (hr : Region.ready .any ops listed = []) (h : Q .normal a w) : HIn n P ops Q S f listed a w := by
  cases f with
  | zero => exact ⟨hr, h⟩
  | succ f => exact ⟨fun _ => h, fun i hi => by rw [hr] at hi; exact absurd hi List.not_mem_nil⟩
theorem in_take {i : Nat} {oi : Oper} {d : Tmp} {OP : Op} {T : TypeId} {v : Value} {f : Nat} {listed : Array Bool} {a : Act} {w : World} (hi : ops[i]? = some oi) (hd : oi.dst = some d) (ho : oi.op = OP) (ht : oi.type = T)
    (hs : Region.noSelect ops = true) (hf : Region.free .any ops listed i = true) (hr : (Region.ready .any ops listed).contains i = true)
    (hQ : ∀ c a w, Q (.panic c) (a.put (some d) v) w → Q (.panic c) a w) (hw : Region.wanted oi (yielded ops a.tmps) = true)
    (hy : ∀ w, S w → (execOp a.eval { dst := none, op := OP, type := T, pos := "", after := #[], guard := none }).run P w = .ok (.value v) w) (hS : S w)
    (h : HIn n P ops Q S f (listed.setIfInBounds i true) (a.put (some d) v) w) : HIn n P ops Q S (f + 1) listed a w := by
  refine HIn.take (v := v) hi hs (by rw [hd]; exact hQ) f hf (by simpa using hr) (.inl ⟨hw, fun w hSw => ?_⟩) hS (by rw [hd]; exact h)
  rw [exec_same a.eval oi ho ht]
  exact hy w hSw
theorem in_pass {i : Nat} {oi : Oper} {d : Tmp} {f : Nat} {listed : Array Bool} {a : Act} {w : World} (hi : ops[i]? = some oi) (hd : oi.dst = some d)
    (hs : Region.noSelect ops = true) (hf : Region.free .any ops listed i = true) (hr : (Region.ready .any ops listed).contains i = true)
    (hQ : ∀ c a w, Q (.panic c) (a.put (some d) undef) w → Q (.panic c) a w) (hw : Region.wanted oi (yielded ops a.tmps) = false) (hS : S w)
    (h : HIn n P ops Q S f (listed.setIfInBounds i true) (a.put (some d) undef) w) : HIn n P ops Q S (f + 1) listed a w :=
  HIn.take (v := undef) hi hs (by rw [hd]; exact hQ) f hf (by simpa using hr) (.inr ⟨hw, rfl⟩) hS (by rw [hd]; exact h)
theorem in_call {i : Nat} {oi : Oper} {d : Tmp} {OP : Op} {T : TypeId} {g : FuncId} {args : Array Value} {f : Nat} {listed : Array Bool} {a : Act} {w : World} (hi : ops[i]? = some oi) (hd : oi.dst = some d) (ho : oi.op = OP) (ht : oi.type = T)
    (hr : Region.ready .any ops listed = [i]) (hw : Region.wanted oi (yielded ops a.tmps) = true)
    (hy : (execOp a.eval { dst := none, op := OP, type := T, pos := "", after := #[], guard := none }).run P w = .ok (.enter g args) w)
    (h : Calls P g args w fun e w' => ∃ v, e = .returned v ∧ S w' ∧ HIn n P ops Q S f (listed.setIfInBounds i true) (a.put (some d) v) w') : HIn n P ops Q S (f + 1) listed a w := by
  refine ⟨fun e => (by rw [hr] at e; cases e), fun j hj => ?_⟩
  rw [hr, List.mem_singleton] at hj
  subst hj
  unfold wpOpIn
  simp only [hi]
  rw [if_pos hw]
  refine ⟨fun _ _ => trivial, ?_⟩
  rw [show oi.semAt Fence.wide.round a.eval = execOp a.eval oi from Oper.semAt_none _ _, exec_same a.eval oi ho ht, hy]
  refine ⟨fun e => (by cases e), callsIn_wide.2 (h.mono ?_)⟩
  rintro e w' ⟨v, rfl, hS, hx⟩
  show S w' ∧ HIn n P ops Q S f _ (a.put oi.dst v) w'
  rw [hd]
  exact ⟨hS, hx⟩
theorem in_yield {i : Nat} {oi : Oper} {d : Tmp} {OP : Op} {T : TypeId} {l : Nat} {args : Array Value} {f : Nat} {listed : Array Bool} {a : Act} {w : World} (hi : ops[i]? = some oi) (hd : oi.dst = some d) (ho : oi.op = OP) (ht : oi.type = T)
    (hr : Region.ready .any ops listed = [i]) (hw : Region.wanted oi (yielded ops a.tmps) = true)
    (hy : (execOp a.eval { dst := none, op := OP, type := T, pos := "", after := #[], guard := none }).run P w = (Instr.yield l args).run P w)
    (h : YieldAt Fence.wide (n - 1) P l args w fun e w' => ∃ v, e = .returned v ∧ S w' ∧ HIn n P ops Q S f (listed.setIfInBounds i true) (a.put (some d) v) w') : HIn n P ops Q S (f + 1) listed a w := by
  refine ⟨fun e => (by rw [hr] at e; cases e), fun j hj => ?_⟩
  rw [hr, List.mem_singleton] at hj
  subst hj
  obtain ⟨fn, ts, asg, b, h1, h2⟩ := h
  unfold wpOpIn
  simp only [hi]
  rw [if_pos hw]
  refine ⟨fun _ _ => trivial, ?_⟩
  rw [show oi.semAt Fence.wide.round a.eval = execOp a.eval oi from Oper.semAt_none _ _, exec_same a.eval oi ho ht, hy, h1]
  refine ⟨fun e => (by cases e), h2.mono ?_⟩
  rintro e w' ⟨v, rfl, hS, hx⟩
  show S w' ∧ HIn n P ops Q S f _ (a.put oi.dst v) w'
  rw [hd]
  exact ⟨hS, hx⟩
end
end Go.Proofs.YtkkpdgfllnbigaaGreatDoor.Pm
namespace Go.Proofs.YtkkpdgfllnbigaaGreatDoor
open Go.RowKit Go.Shelf
theorem cell_stays {w w' : World} {a : Addr} {x : Value} (h : w.cell? a = some x) (hb : Below w.heap.size w w') : w'.cell? a = some x := by
  rw [hb.cell (World.block_lt_of_cell? w a h)]; exact h
theorem drew_below (W : World) : Below W.heap.size W W.drew := ⟨rfl, rfl, rfl, Nat.le_refl _, fun _ _ => rfl⟩
theorem set_one {w : World} {B i : Nat} {cs : Array Value} {ty : TypeId} (v : Value) (h : w.heap[B]? = some (.cells cs ty (0, 0))) : (w.setCell ⟨B, i, none⟩ v).heap[B]? = some (.cells (cs.setIfInBounds i v) ty (0, 0)) ∧ Only (fun j => j = B) w (w.setCell ⟨B, i, none⟩ v) := by
  refine ⟨?_, (Only.ofGrown (grown_setCell w ⟨B, i, none⟩ _)).mono (fun j _ e => by simpa using e.symm)⟩
  rw [heap_setCell_same _ _ _ _ ty _ h]
theorem Only.next {D : Nat → Prop} {a b c : World} (h : Only D a b) (k : Only D b c) : Only D a c := h.trans k (fun _ _ d => d)
theorem below_only {D : Nat → Prop} {W W' : World} (h : Below W.heap.size W W') : Only D W W' := (Only.ofBelow h).mono (fun _ _ d => d.elim)
end Go.Proofs.YtkkpdgfllnbigaaGreatDoor
