/-
  kinds: Empty 34; slices.Clone 79.
-/
import Derived.Test.YtkdgageljgfgoaaDoorVal
namespace Go.Proofs.YtkdgageljgfgoaaDoor
open Go.RowKit Go.Shelf Go.Sort
set_option linter.unusedSimpArgs false
attribute [local go_sem] Oper.semAt_some

theorem Tryd.info30 : (Tryd.prog.info? 30).map (·.size) = some 3 := by kernel_rfl
set_option maxHeartbeats 1000000 in
theorem empty_any (k : Int) (w : World) : Calls Tryd.prog 6 #[.int .i64 k] w fun e w' => e = .returned (if valuedK k = true then .tuple #[vv k 0 none 0 0, .int .i64 0] else .tuple #[vv 0 0 none 0 0, .int .i64 2]) ∧ Below w.heap.size w w' := by
  have hv := fun W => valued_any k W
  generalize valuedK k = V at *
  cases V
  · go_enter Tryd.func6, Tryd.ntmps6
    go_wp2_with (go_at_call 11; refine (hv _).mono ?_; rintro e w' ⟨rfl, rfl⟩)
    refine ret_row_tmp w.heap.size [.int .i64 0, .int .i64 0, .slice none 0 0] rfl rfl rfl Tryd.underlying30 rfl Tryd.info30 (heap_alloc_new w _) rfl ?_
    exact ⟨rfl, (Below.refl _ w).alloc (Nat.le_refl _) _⟩
  · go_enter Tryd.func6, Tryd.ntmps6
    go_wp2_with (go_at_call 11; refine (hv _).mono ?_; rintro e w' ⟨rfl, rfl⟩)
    refine ret_row_tmp w.heap.size [.int .i64 k, .int .i64 0, .slice none 0 0] rfl rfl rfl Tryd.underlying30 rfl Tryd.info30 (heap_alloc_new w _) rfl ?_
    exact ⟨rfl, (Below.refl _ w).alloc (Nat.le_refl _) _⟩

theorem cloneE_any {w : World} {ao : Option Addr} {c : Nat} {L : List El} (h : Rv w ao c L) (hl : L.length ≤ 100000) : Calls Tryd.prog 45 #[.slice ao L.length c] w fun e w' => ∃ a' c', e = .returned (.slice a' L.length c') ∧ Oe w' w.heap.size (.slice a' L.length c') L ∧ Below w.heap.size w w' := by
  cases ao with
  | none =>
    have := h.re.1 rfl
    subst this
    have hc := AnyE.slices_Clone_nil Tryd.cloneElems 0 c w
    change Calls Tryd.prog 45 _ _ _ at hc
    refine hc.mono ?_
    rintro e w' ⟨rfl, rfl⟩
    exact ⟨none, 0, rfl, Oe.nil _ _, Below.refl _ _⟩
  | some a =>
    obtain ⟨b, off, sp⟩ := a
    have hs := h.spot _ rfl
    simp only at hs
    subst hs
    obtain ⟨i0, hi, hz0, hz1, hz2⟩ := info_of info77
    have hr : ∀ j v, (flatE L)[j]? = some v → w.cell? ⟨b, off + j, none⟩ = some v := fun j v hj => by have := h.re.2 _ rfl j v hj; rw [add_lit] at this; exact this
    have hc := AnyE.slices_Clone Tryd.cloneElems i0 _ 6 64 hi hz0 hz1 hz2 rfl (by decide) Tryd.sizeOf58 b off L.length c (flatE L) w (flatE_len L) (by unfold maxLen; omega) (by omega) hr (flatE_one L)
    change Calls Tryd.prog 45 _ _ _ at hc
    refine hc.mono ?_
    rintro e w' ⟨v, he, ho, hv, hb⟩
    obtain ⟨a', c', rfl, _⟩ := Oe.form (L := L) ho
    exact ⟨a', c', he, ho, hb⟩
end Go.Proofs.YtkdgageljgfgoaaDoor
