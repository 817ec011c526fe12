/-
  counter: slices.Clone 20, Steps 15.
-/
import Derived.Test.YtlhfkdgdbjinoaaSumsW
namespace Go.Proofs.Ytlhfkdgdbjinoaa
open Go.RowKit Go.Shelf
set_option linter.unusedSimpArgs false
attribute [local go_sem] Oper.semAt_some

theorem nil_yes (W : World) : (binOp .eql 23 (.slice none 0 0) (.slice none 0 0)).run Try.prog W = .ok (.bool true) W := by
  rw [Lib.run_eql_slice_nil W 23 2 none 0 0 0 0 Try.underlying23]; rfl
theorem nil_no (a : Addr) (n c : Nat) (W : World) : (binOp .eql 23 (.slice (some a) n c) (.slice none 0 0)).run Try.prog W = .ok (.bool false) W := by
  rw [Lib.run_eql_slice_nil W 23 2 (some a) n c 0 0 Try.underlying23]; rfl
theorem clone_any {w : World} {ao : Option Addr} {c : Nat} {l : List Int} (h : Nd w ao l) (hc : ao = none → c = 0) (hl : l.length ≤ 1000000) : Calls Try.prog 20 #[.slice ao l.length c] w fun e w' => MadeN 2 w w' e l := by
  obtain ⟨i0, hi, hz0, hz1, hz2⟩ := info_of info2
  have HI := hide (And.intro hi (And.intro hz0 (And.intro hz1 hz2)))
  clear hi hz0 hz1 hz2
  obtain ⟨N, hN⟩ : ∃ N, N = l.length := ⟨_, rfl⟩
  cases ao with
  | none =>
    have := h.1 rfl
    subst this
    obtain rfl := hc rfl
    show Calls Try.prog 20 #[.slice none 0 0] w _
    clear hc
    have hnil := nil_yes
    go_enter Try.func20, Try.ntmps20
    go_wp2
    go_ret
    exact ⟨none, 0, rfl, Nw.nil _ _ _, fun _ => rfl, Below.refl _ _⟩
  | some a =>
    have app1 : ∀ W v, Below w.heap.size w W → Nw 2 W w.heap.size v [] → ∀ {ops : Array Oper} {rest : List Oper} {o : Oper} {ac : Act} {Q : Exit → Act → World → Prop} (_ : o.guard = none) (s t : Operand) (_ : o.op = .call { callee := .builtin .append, args := #[s, t], argTypes := #[23, 23] })
        (_ : ac.eval s = v) (_ : ac.eval t = .slice (some a) N c)
        (_ : ∀ ao' cap' w', Hid (Nw 2 w' w.heap.size (.slice ao' N cap') l ∧ Below w.heap.size w w' ∧ (ao' = none → cap' = 0)) → wpList Try.prog ops Q rest (ac.put o.dst (.slice ao' N cap')) w'),
        wpList Try.prog ops Q (o :: rest) ac W := by
      intro W v hW hv ops rest o ac Q hg s t ho hs ht hk
      refine wpList_append_nd hg s t 23 ho w.heap.size 2 i0 Try.underlying23 HI.out.1 HI.out.2.1 HI.out.2.2.1 HI.out.2.2.2 v [] hs hv (some a) c l (by rw [ht, hN]) hc (h.below hW) (by simp; omega) hW.size ?_
      intro ao' cap' w' h1 h2 h3
      rw [List.length_nil, Nat.zero_add, ← hN, List.nil_append] at h1
      rw [List.length_nil, Nat.zero_add, ← hN]
      exact hk ao' cap' w' (hide ⟨h1, below_nw hW hW.size hv h2, h3⟩)
    have hnew : ∀ W : World, Nw 2 (W.alloc (.cells #[] 2)) W.heap.size (.slice (some ⟨W.heap.size, 0, none⟩) 0 0) [] := fun W =>
      ⟨by simp [n64s], .inr ⟨W.heap.size, 0, #[], rfl, Nat.le_refl _, heap_alloc_new W _, Nat.le_refl _, Nat.zero_le _, by simp, by simp [n64s]⟩⟩
    rw [← hN]
    have HH := hide (And.intro h hN)
    clear h hN hc
    have hnil := nil_no a N c
    go_enter Try.func20, Try.ntmps20
    go_wp2_with (refine app1 _ _ ((Below.refl _ w).alloc (Nat.le_refl _) _) (hnew w) rfl _ _ rfl rfl rfl ?_; intro a2 c2 w2 H2)
    go_ret
    exact ⟨a2, c2, by rw [← HH.out.2]; rfl, by rw [← HH.out.2]; exact H2.out.1, H2.out.2.2, H2.out.2.1⟩

/-- What Steps answers: a closure over two boxes, over numbers of its own. -/
theorem steps_any {w : World} {n : Int} {ao : Option Addr} {c : Nat} {l : List Int} (h : Nd w ao l) (hc : ao = none → c = 0) (hl : l.length ≤ 1000000) : Calls Try.prog 15 #[.int .i64 n, .slice ao l.length c] w fun e w' => ∃ L a' c', e = .returned (.func (.func 22) #[] #[.pointer (some ⟨L, 0, none⟩), .pointer (some ⟨L + 1, 0, none⟩)]) ∧
    w'.cell? ⟨L, 0, none⟩ = some (.int .i64 n) ∧ w'.cell? ⟨L + 1, 0, none⟩ = some (.slice a' l.length c') ∧ Nd w' a' l ∧ w.heap.size ≤ L ∧ (∀ a, a' = some a → w.heap.size ≤ a.block) ∧ Below w.heap.size w w' := by
  have k1 := clone_any (c := c) h hc hl
  obtain ⟨N, hN⟩ : ∃ N, N = l.length := ⟨_, rfl⟩
  have k2 := fun (W : World) (a' : Option Addr) (c' : Nat) => over_any n (.slice a' N c') a' N c' rfl W
  unfold MadeN at k1
  rw [← hN] at k1 ⊢
  have HN := hide hN
  clear hN h hc
  go_enter Try.func15, Try.ntmps15
  go_wp2_with (first
    | (go_at_call 20; refine k1.mono ?_; rintro e w1 ⟨a1, c1, rfl, o1, n1, b1⟩; clear k1)
    | (go_at_call 19; refine (k2 _ _ _).mono ?_; rintro e w2 ⟨rfl, hw2⟩; clear k2))
  go_ret
  have hb2 : Below w1.heap.size w1 w2 := by rw [hw2]; exact ((Below.refl _ w1).alloc (Nat.le_refl _) _).alloc (by simp) _
  obtain ⟨m0, m1⟩ := new2 w1 (.cells #[.int .i64 n] 2) (.cells #[.slice a1 N c1] 23)
  rw [← hw2] at m0 m1
  try rw [← hw2]
  exact ⟨w1.heap.size, a1, c1, rfl, (cell_of_row _ _ 0 _ 2 (0, 0) m0).trans rfl, (cell_of_row _ _ 0 _ 23 (0, 0) m1).trans rfl, o1.rd.below hb2, b1.size, fun a ha => (o1.blk a ha).1, b1.trans (hb2.mono b1.size)⟩
end Go.Proofs.Ytlhfkdgdbjinoaa
