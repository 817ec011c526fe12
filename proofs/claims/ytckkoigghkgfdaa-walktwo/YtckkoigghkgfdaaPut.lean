/-
  PUT, TAKE AND SPLIT, as the program has them; whether keys fit beside a key.
-/
import Derived.Test.YtckkoigghkgfdaaEnds
namespace Go.Proofs.Ytckkoigghkgfdaa
open Go.RowKit Go.Shelf
set_option linter.unusedSimpArgs false

theorem Joins.n {B p k v nl nr l r t} (h : Joins B p k v nl nr l r t) : t.n = l.n + r.n + 1 := by
  rw [← T.n_eq, h.list, List.length_append, List.length_cons, T.n_eq, T.n_eq]; omega
theorem Puts.n {B k v t t'} (h : Puts B k v t t') : t'.n ≤ t.n + 1 := by
  induction h with
  | none => simp [T.n]
  | left _ _ hj ih => rw [hj.n]; simp only [T.n]; omega
  | right _ _ hj ih => rw [hj.n]; simp only [T.n]; omega
  | same => simp only [T.n]; omega
theorem Takes.n {B k t t'} (h : Takes B k t t') : t'.n ≤ t.n := by
  induction h with
  | none => exact Nat.le_refl _
  | left _ _ hj ih => rw [hj.n]; simp only [T.n]; omega
  | right _ _ hj ih => rw [hj.n]; simp only [T.n]; omega
  | onlyR => simp only [T.n]; omega
  | onlyL => simp only [T.n]; omega
  | both _ _ _ _ _ hj ih => rw [hj.n]; simp only [T.n]; omega
theorem Splits.n {B k t a f b} (h : Splits B k t a f b) : a.n ≤ t.n ∧ b.n ≤ t.n := by
  induction h with
  | none => exact ⟨Nat.le_refl _, Nat.le_refl _⟩
  | left _ _ hj ih => rw [hj.n]; simp only [T.n]; omega
  | right _ _ hj ih => rw [hj.n]; simp only [T.n]; omega
  | same => simp only [T.n]; omega
theorem compare_B (a b : ByteArray) (w : World) : Calls Try.prog 49 #[.string a, .string b] w fun e w' => e = .returned (.int .i64 (cmpB a b)) ∧ w' = w := Try.strings_Compare a b w
theorem compare_is {a b : ByteArray} {c : Int} (h : cmpB a b = c) (w : World) : Calls Try.prog 49 #[.string a, .string b] w fun e w' => e = .returned (.int .i64 c) ∧ w' = w := h ▸ compare_B a b w

set_option maxHeartbeats 4000000 in
set_option maxRecDepth 100000 in
theorem put_any (k : ByteArray) (v : Int) (t : T) : ∀ (w : World), In w t → t.n ≤ 700000 →
    Calls Try.prog 43 #[t.ptr, .string k, .int .i64 v] w fun e w' => ∃ t', Gives w e w' t' ∧ Puts w.heap.size k v t t' := by
  induction t with
  | nil =>
    intro w h _
    have hm := made_any .nil .nil k v w trivial trivial (by decide)
    simp only [T.ptr] at hm ⊢
    go_enter Try.func43, Try.ntmps43
    go_wp2_with (go_at_call 41; refine hm.mono ?_; rintro e w' ⟨rfl, hg, hb⟩)
    go_ret
    exact ⟨_, ⟨rfl, hg, hb⟩, .none (Nat.le_refl _)⟩
  | node p nk nv l r ihl ihr =>
    intro w h hn
    obtain ⟨c0, c1, c2, c3, c4, c5⟩ := h.cells
    rcases ord_B.range k nk with hc | hc | hc
    · have hcc : cmpB k nk = -1 := hc
      have hcmp := fun W => compare_is hcc W
      have b1 : ∀ W, Below w.heap.size w W → Calls Try.prog 43 #[l.ptr, .string k, .int .i64 v] W fun e w' => ∃ t', Gives W e w' t' ∧ Puts W.heap.size k v l t' := fun W hW => ihl W (In.below hW h.2.1) (by simp only [T.n] at hn; omega)
      have b2 : ∀ W l', Below w.heap.size w W → In W l' → l'.n ≤ l.n + 1 → Calls Try.prog 62 #[.pointer (some ⟨p, 0, none⟩), l'.ptr, r.ptr] W fun e w' => ∃ t, Gives W e w' t ∧ Joins W.heap.size p nk nv l r l' r t := fun W l' hW hi hnn => joining_any l' r W (In.below hW h) hi (In.below hW h.2.2) (by simp only [T.n] at hn; omega)
      have HF := hide (show ∀ l' t B C, w.heap.size ≤ B → w.heap.size ≤ C → Puts B k v l l' → Joins C p nk nv l r l' r t → Puts w.heap.size k v (.node p nk nv l r) t from fun _ _ _ _ hB hC hp hj => .left hcc (hp.mono hB) (hj.mono hC))
      obtain ⟨al, hal⟩ := l.ptr_shape
      obtain ⟨ar, har⟩ := r.ptr_shape
      rw [hal] at c2
      rw [har] at c3
      rw [node_ptr]
      simp only [hal] at b1
      simp only [har] at b2
      have hS : w.cell? ⟨p, 2, none⟩ = some (.pointer al) ∧ w.cell? ⟨p, 3, none⟩ = some (.pointer ar) := ⟨c2, c3⟩
      have tk1 : True := trivial
      have hB0 : Below w.heap.size w w := Below.refl _ w
      clear h hn hc hcc hal har c1 c2 c3 c4 c5 ihl ihr
      go_enter Try.func43, Try.ntmps43
      go_wp2_with (go_at_call 49; refine (hcmp _).mono ?_; rintro e w' ⟨rfl, hw⟩; replace hw := hw.symm; subst hw)
      go_region_held3 (fun w' => w'.cell? ⟨p, 2, none⟩ = some (.pointer al) ∧ w'.cell? ⟨p, 3, none⟩ = some (.pointer ar)) (first | exact hS | exact keep2 hS (by assumption) | exact keep2 (by assumption) (by assumption))
        (first
          | (go_at_call 43; clear tk1; refine (b1 _ hB0.drew).mono ?_; rintro e w1 ⟨m, hg, hj⟩; have he := hg.1; have hb1 := hg.2.2; have HI1 := hide hg.2.1; have hmn := hj.n; have HJ := hide hj; clear hg hj; obtain ⟨am, ham⟩ := m.ptr_shape; rw [ham] at he; subst he; have hB1 := hB0.drew.trans (hb1.mono hB0.size); have hb22 := b2 w1 m hB1 HI1.out (by omega); rw [ham] at hb22)
          | (go_at_call 62; refine hb22.mono ?_; rintro e w2 ⟨t, hg, hs⟩; have he := hg.1; have hb2 := hg.2.2; have HI2 := hide hg.2.1; have HS := hide hs; clear hg hs; obtain ⟨at_, hat⟩ := t.ptr_shape; have HT := hide hat; rw [hat] at he; subst he; have hB2 := hB1.trans (hb2.mono hB1.size)))
      go_wp2
      go_ret
      exact ⟨t, ⟨by rw [HT.out]; rfl, HI2.out, hB2⟩, HF.out _ _ _ _ (Nat.le_refl _) hB1.size HJ.out HS.out⟩
    · have hcmp := fun W => compare_is hc W
      have hm := made_any l r k v w.drew h.2.1.drew h.2.2.drew (by simp only [T.n] at hn; omega)
      have hG : ∀ e w', Gives w.drew e w' (.node w.drew.heap.size k v l r) → Hid (∃ t', Gives w e w' t' ∧ Puts w.heap.size k v (.node p nk nv l r) t') ∧ e = .returned (.pointer (some ⟨w.heap.size, 0, none⟩)) ∧ Below w.heap.size w w' := fun e w' g => ⟨hide ⟨_, g.grow (Below.refl _ w).drew, .same hc (Nat.le_refl _)⟩, g.1, (g.grow (Below.refl _ w).drew).2.2⟩
      obtain ⟨al, hal⟩ := l.ptr_shape
      obtain ⟨ar, har⟩ := r.ptr_shape
      rw [hal] at c2 hm
      rw [har] at c3 hm
      rw [node_ptr]
      have hS : w.cell? ⟨p, 2, none⟩ = some (.pointer al) ∧ w.cell? ⟨p, 3, none⟩ = some (.pointer ar) := ⟨c2, c3⟩
      clear h hn hc hal har c1 c2 c3 c4 c5 ihl ihr
      go_enter Try.func43, Try.ntmps43
      go_wp2_with (go_at_call 49; refine (hcmp _).mono ?_; rintro e w' ⟨rfl, hw⟩; replace hw := hw.symm; subst hw)
      go_region_held3 (fun w' => w'.cell? ⟨p, 2, none⟩ = some (.pointer al) ∧ w'.cell? ⟨p, 3, none⟩ = some (.pointer ar)) (first | exact hS | exact keep2 hS (by assumption))
        (first | (go_at_call 41; refine hm.mono ?_; intro e w' hg; obtain ⟨HG, rfl, hb2⟩ := hG e w' hg))
      go_wp2
      go_ret
      exact HG.out
    · have hcc : cmpB k nk = 1 := hc
      have hcmp := fun W => compare_is hcc W
      have b1 : ∀ W, Below w.heap.size w W → Calls Try.prog 43 #[r.ptr, .string k, .int .i64 v] W fun e w' => ∃ t', Gives W e w' t' ∧ Puts W.heap.size k v r t' := fun W hW => ihr W (In.below hW h.2.2) (by simp only [T.n] at hn; omega)
      have b2 : ∀ W r', Below w.heap.size w W → In W r' → r'.n ≤ r.n + 1 → Calls Try.prog 62 #[.pointer (some ⟨p, 0, none⟩), l.ptr, r'.ptr] W fun e w' => ∃ t, Gives W e w' t ∧ Joins W.heap.size p nk nv l r l r' t := fun W r' hW hi hnn => joining_any l r' W (In.below hW h) (In.below hW h.2.1) hi (by simp only [T.n] at hn; omega)
      have HF := hide (show ∀ r' t B C, w.heap.size ≤ B → w.heap.size ≤ C → Puts B k v r r' → Joins C p nk nv l r l r' t → Puts w.heap.size k v (.node p nk nv l r) t from fun _ _ _ _ hB hC hp hj => .right hcc (hp.mono hB) (hj.mono hC))
      obtain ⟨al, hal⟩ := l.ptr_shape
      obtain ⟨ar, har⟩ := r.ptr_shape
      rw [hal] at c2
      rw [har] at c3
      rw [node_ptr]
      simp only [har] at b1
      simp only [hal] at b2
      have hS : w.cell? ⟨p, 2, none⟩ = some (.pointer al) ∧ w.cell? ⟨p, 3, none⟩ = some (.pointer ar) := ⟨c2, c3⟩
      have tk1 : True := trivial
      have hB0 : Below w.heap.size w w := Below.refl _ w
      clear h hn hc hcc hal har c1 c2 c3 c4 c5 ihl ihr
      go_enter Try.func43, Try.ntmps43
      go_wp2_with (go_at_call 49; refine (hcmp _).mono ?_; rintro e w' ⟨rfl, hw⟩; replace hw := hw.symm; subst hw)
      go_region_held3 (fun w' => w'.cell? ⟨p, 2, none⟩ = some (.pointer al) ∧ w'.cell? ⟨p, 3, none⟩ = some (.pointer ar)) (first | exact hS | exact keep2 hS (by assumption) | exact keep2 (by assumption) (by assumption))
        (first
          | (go_at_call 43; clear tk1; refine (b1 _ hB0.drew).mono ?_; rintro e w1 ⟨m, hg, hj⟩; have he := hg.1; have hb1 := hg.2.2; have HI1 := hide hg.2.1; have hmn := hj.n; have HJ := hide hj; clear hg hj; obtain ⟨am, ham⟩ := m.ptr_shape; rw [ham] at he; subst he; have hB1 := hB0.drew.trans (hb1.mono hB0.size); have hb22 := b2 w1 m hB1 HI1.out (by omega); rw [ham] at hb22)
          | (go_at_call 62; refine hb22.mono ?_; rintro e w2 ⟨t, hg, hs⟩; have he := hg.1; have hb2 := hg.2.2; have HI2 := hide hg.2.1; have HS := hide hs; clear hg hs; obtain ⟨at_, hat⟩ := t.ptr_shape; have HT := hide hat; rw [hat] at he; subst he; have hB2 := hB1.trans (hb2.mono hB1.size)))
      go_wp2
      go_ret
      exact ⟨t, ⟨by rw [HT.out]; rfl, HI2.out, hB2⟩, HF.out _ _ _ _ (Nat.le_refl _) hB1.size HJ.out HS.out⟩
end Go.Proofs.Ytckkoigghkgfdaa
