/-
  kinds: Value 25, Empty 35.
  kinds: Empty 35; slices.Clone 79.
-/
import Derived.Test.YtkdgageljgfgoaaGreatDoorMay
namespace Go.Proofs.YtkdgageljgfgoaaGreatDoor
open Go.RowKit Go.Shelf
set_option linter.unusedSimpArgs false
attribute [local go_sem] Oper.semAt_some

/-- A slice of elements that can be read. -/
structure Rv (w : World) (ao : Option Addr) (c : Nat) (l : List El) : Prop where
  re : Re w ao l
  cap : l.length ≤ c
  nil : ao = none → c = 0
  spot : ∀ a, ao = some a → a.spot = none
theorem Rv.below {w w' : World} {ao : Option Addr} {c : Nat} {l : List El} (h : Rv w ao c l) (hb : Below w.heap.size w w') : Rv w' ao c l := ⟨h.re.below hb, h.cap, h.nil, h.spot⟩
theorem Rv.none (w : World) : Rv w .none 0 [] := ⟨Re.nil _ _, by simp, fun _ => rfl, by simp⟩
theorem Rv.own {w : World} {B : Nat} {ao : Option Addr} {n c : Nat} {l : List El} (h : Oe w B (.slice ao n c) l) : Rv w ao c l := by
  obtain ⟨a', c', e, h1, h2, h3, h4⟩ := h.form
  cases e
  exact ⟨h1, h3, h2, fun a ha => (h4 a ha).2.2⟩
/-- May it be a value? -/
def valB (k n : Int) (l : List El) : Bool := if k = 1 then decide (l.length = 0) else valuedK k && (n == 0) && mayB l
abbrev vv (k n : Int) (ao : Option Addr) (m c : Nat) : Value := .agg #[.int .i64 k, .int .i64 n, .slice ao m c]
set_option maxHeartbeats 2000000 in
set_option maxRecDepth 100000 in
theorem value_any {w : World} (k n : Int) {ao : Option Addr} {c : Nat} {l : List El} (h : Rv w ao c l) (hl : l.length ≤ 1000000) : Calls Tryz.prog 25 #[vv k n ao l.length c] w fun e w' => e = .returned (.bool (valB k n l)) ∧ Below w.heap.size w w' := by
  obtain ⟨N, hN⟩ : ∃ N, N = l.length := ⟨_, rfl⟩
  have b1 : Below w.heap.size w (w.alloc (.cells #[.int .i64 k, .int .i64 n, .slice ao N c] 46)) := (Below.refl _ w).alloc (Nat.le_refl _) _
  have hm := mayStand_any (c := c) (h.re.below b1) h.cap hl h.spot
  have hv := fun W => valued_any k W
  unfold valB
  rw [← hN] at hm ⊢
  have HB := hide b1
  clear b1 h hl hN
  by_cases h1 : k = 1
  · subst h1
    rw [if_pos rfl]
    by_cases h0 : N = 0
    · subst h0
      go_enter Tryz.func25, Tryz.ntmps25
      go_wp2
      go_ret
      exact ⟨rfl, HB.out⟩
    · have hz : ((N : Int) == 0) = false := by rw [beq_eq_false_iff_ne]; omega
      rw [show decide (N = 0) = false by simpa using h0]
      go_enter Tryz.func25, Tryz.ntmps25
      go_wp2
      go_ret
      exact ⟨rfl, HB.out⟩
  · rw [if_neg h1]
    have e1 : (k == 1) = false := by simpa using h1
    generalize valuedK k = V1 at *
    generalize mayB l = V3 at *
    cases V1
    · go_enter Tryz.func25, Tryz.ntmps25
      go_wp2_with (go_at_call 45; refine (hv _).mono ?_; rintro e w' ⟨rfl, rfl⟩)
      go_ret
      exact ⟨rfl, HB.out⟩
    · by_cases h0 : n = 0
      · subst h0
        have z : ((0 : Int) == 0) = true := rfl
        go_enter Tryz.func25, Tryz.ntmps25
        go_wp2_with (first | (go_at_call 45; refine (hv _).mono ?_; rintro e w' ⟨rfl, rfl⟩) | (go_at_call 60; refine hm.mono ?_; rintro e w2 ⟨rfl, b2⟩))
        go_ret
        exact ⟨by cases V3 <;> rfl, HB.out.trans (b2.mono HB.out.size)⟩
      · have z : (n == 0) = false := by simpa using h0
        rw [z]
        go_enter Tryz.func25, Tryz.ntmps25
        go_wp2_with (go_at_call 45; refine (hv _).mono ?_; rintro e w' ⟨rfl, rfl⟩)
        go_ret
        exact ⟨rfl, HB.out⟩
end Go.Proofs.YtkdgageljgfgoaaGreatDoor
namespace Go.Proofs.YtkdgageljgfgoaaGreatDoor
open Go.RowKit Go.Shelf Go.Sort
set_option linter.unusedSimpArgs false
attribute [local go_sem] Oper.semAt_some

theorem Tryz.info46 : (Tryz.prog.info? 46).map (·.size) = some 3 := by kernel_rfl
set_option maxHeartbeats 1000000 in
theorem empty_any (k : Int) (w : World) : Calls Tryz.prog 35 #[.int .i64 k] w fun e w' => e = .returned (if valuedK k = true then .tuple #[vv k 0 none 0 0, .int .i64 0] else .tuple #[vv 0 0 none 0 0, .int .i64 2]) ∧ Below w.heap.size w w' := by
  have hv := fun W => valued_any k W
  generalize valuedK k = V at *
  cases V
  · go_enter Tryz.func35, Tryz.ntmps35
    go_wp2_with (go_at_call 45; refine (hv _).mono ?_; rintro e w' ⟨rfl, rfl⟩)
    refine ret_row_tmp w.heap.size [.int .i64 0, .int .i64 0, .slice none 0 0] rfl rfl rfl Tryz.underlying46 rfl Tryz.info46 (heap_alloc_new w _) rfl ?_
    exact ⟨rfl, (Below.refl _ w).alloc (Nat.le_refl _) _⟩
  · go_enter Tryz.func35, Tryz.ntmps35
    go_wp2_with (go_at_call 45; refine (hv _).mono ?_; rintro e w' ⟨rfl, rfl⟩)
    refine ret_row_tmp w.heap.size [.int .i64 k, .int .i64 0, .slice none 0 0] rfl rfl rfl Tryz.underlying46 rfl Tryz.info46 (heap_alloc_new w _) rfl ?_
    exact ⟨rfl, (Below.refl _ w).alloc (Nat.le_refl _) _⟩

theorem cloneE_any {w : World} {ao : Option Addr} {c : Nat} {L : List El} (h : Rv w ao c L) (hl : L.length ≤ 100000) : Calls Tryz.prog 79 #[.slice ao L.length c] w fun e w' => ∃ a' c', e = .returned (.slice a' L.length c') ∧ Oe w' w.heap.size (.slice a' L.length c') L ∧ Below w.heap.size w w' := by
  cases ao with
  | none =>
    have := h.re.1 rfl
    subst this
    have hc := AnyE.slices_Clone_nil Tryz.cloneElems 0 c w
    change Calls Tryz.prog 79 _ _ _ at hc
    refine hc.mono ?_
    rintro e w' ⟨rfl, rfl⟩
    exact ⟨none, 0, rfl, Oe.nil _ _, Below.refl _ _⟩
  | some a =>
    obtain ⟨b, off, sp⟩ := a
    have hs := h.spot _ rfl
    simp only at hs
    subst hs
    obtain ⟨i0, hi, hz0, hz1, hz2⟩ := info_of info77
    have hr : ∀ j v, (flatE L)[j]? = some v → w.cell? ⟨b, off + j, none⟩ = some v := fun j v hj => by have := h.re.2 _ rfl j v hj; rw [add_lit] at this; exact this
    have hc := AnyE.slices_Clone Tryz.cloneElems i0 _ 6 64 hi hz0 hz1 hz2 rfl (by decide) Tryz.sizeOf77 b off L.length c (flatE L) w (flatE_len L) (by unfold maxLen; omega) (by omega) hr (flatE_one L)
    change Calls Tryz.prog 79 _ _ _ at hc
    refine hc.mono ?_
    rintro e w' ⟨v, he, ho, hv, hb⟩
    obtain ⟨a', c', rfl, _⟩ := Oe.form (L := L) ho
    exact ⟨a', c', he, ho, hb⟩
end Go.Proofs.YtkdgageljgfgoaaGreatDoor
