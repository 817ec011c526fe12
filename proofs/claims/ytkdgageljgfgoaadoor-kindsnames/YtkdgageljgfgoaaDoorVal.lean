/-
  kinds: Value 49, Empty 35.
-/
import Derived.Test.YtkdgageljgfgoaaDoorMay
namespace Go.Proofs.YtkdgageljgfgoaaDoor
open Go.RowKit Go.Shelf
set_option linter.unusedSimpArgs false
attribute [local go_sem] Oper.semAt_some

/-- A slice of elements that can be read. -/
structure Rv (w : World) (ao : Option Addr) (c : Nat) (l : List El) : Prop where
  re : Re w ao l
  cap : l.length ≤ c
  nil : ao = none → c = 0
  spot : ∀ a, ao = some a → a.spot = none
theorem Rv.below {w w' : World} {ao : Option Addr} {c : Nat} {l : List El} (h : Rv w ao c l) (hb : Below w.heap.size w w') : Rv w' ao c l := ⟨h.re.below hb, h.cap, h.nil, h.spot⟩
theorem Rv.none (w : World) : Rv w .none 0 [] := ⟨Re.nil _ _, by simp, fun _ => rfl, by simp⟩
theorem Rv.own {w : World} {B : Nat} {ao : Option Addr} {n c : Nat} {l : List El} (h : Oe w B (.slice ao n c) l) : Rv w ao c l := by
  obtain ⟨a', c', e, h1, h2, h3, h4⟩ := h.form
  cases e
  exact ⟨h1, h3, h2, fun a ha => (h4 a ha).2.2⟩
/-- May it be a value? -/
def valB (k n : Int) (l : List El) : Bool := if k = 1 then decide (l.length = 0) else valuedK k && (n == 0) && mayB l
abbrev vv (k n : Int) (ao : Option Addr) (m c : Nat) : Value := .agg #[.int .i64 k, .int .i64 n, .slice ao m c]
set_option maxHeartbeats 2000000 in
set_option maxRecDepth 100000 in
theorem value_any {w : World} (k n : Int) {ao : Option Addr} {c : Nat} {l : List El} (h : Rv w ao c l) (hl : l.length ≤ 1000000) : Calls Tryd.prog 23 #[vv k n ao l.length c] w fun e w' => e = .returned (.bool (valB k n l)) ∧ Below w.heap.size w w' := by
  obtain ⟨N, hN⟩ : ∃ N, N = l.length := ⟨_, rfl⟩
  have b1 : Below w.heap.size w (w.alloc (.cells #[.int .i64 k, .int .i64 n, .slice ao N c] 30)) := (Below.refl _ w).alloc (Nat.le_refl _) _
  have hm := mayStand_any (c := c) (h.re.below b1) h.cap hl h.spot
  have hv := fun W => valued_any k W
  unfold valB
  rw [← hN] at hm ⊢
  have HB := hide b1
  clear b1 h hl hN
  by_cases h1 : k = 1
  · subst h1
    rw [if_pos rfl]
    by_cases h0 : N = 0
    · subst h0
      go_enter Tryd.func23, Tryd.ntmps23
      go_wp2
      go_ret
      exact ⟨rfl, HB.out⟩
    · have hz : ((N : Int) == 0) = false := by rw [beq_eq_false_iff_ne]; omega
      rw [show decide (N = 0) = false by simpa using h0]
      go_enter Tryd.func23, Tryd.ntmps23
      go_wp2
      go_ret
      exact ⟨rfl, HB.out⟩
  · rw [if_neg h1]
    have e1 : (k == 1) = false := by simpa using h1
    generalize valuedK k = V1 at *
    generalize mayB l = V3 at *
    cases V1
    · go_enter Tryd.func23, Tryd.ntmps23
      go_wp2_with (go_at_call 11; refine (hv _).mono ?_; rintro e w' ⟨rfl, rfl⟩)
      go_ret
      exact ⟨rfl, HB.out⟩
    · by_cases h0 : n = 0
      · subst h0
        have z : ((0 : Int) == 0) = true := rfl
        go_enter Tryd.func23, Tryd.ntmps23
        go_wp2_with (first | (go_at_call 11; refine (hv _).mono ?_; rintro e w' ⟨rfl, rfl⟩) | (go_at_call 41; refine hm.mono ?_; rintro e w2 ⟨rfl, b2⟩))
        go_ret
        exact ⟨by cases V3 <;> rfl, HB.out.trans (b2.mono HB.out.size)⟩
      · have z : (n == 0) = false := by simpa using h0
        rw [z]
        go_enter Tryd.func23, Tryd.ntmps23
        go_wp2_with (go_at_call 11; refine (hv _).mono ?_; rintro e w' ⟨rfl, rfl⟩)
        go_ret
        exact ⟨rfl, HB.out⟩
end Go.Proofs.YtkdgageljgfgoaaDoor
