/-
  The walk of CounterSteps 4.
-/
import Derived.Test.YtlhfkdgdbjinoaaSteps
import Derived.LoopN
namespace Go.Proofs.Ytlhfkdgdbjinoaa
open Go.RowKit Go.Shelf
set_option linter.unusedSimpArgs false
attribute [local go_sem] Oper.semAt_some

/-- What stands between the rounds of a turn: the box of the count alone is written. -/
structure TI (wA : World) (N : Nat) (c : Nat) (W : World) : Prop where
  only : Only (fun j => j = N) wA W
  n : W.heap[N]? = some (.cells #[.int .i64 (c : Int)] 3 (0, 0))
theorem TI.below {wA W W' : World} {N c : Nat} (h : TI wA N c W) (hb : Below W.heap.size W W') : TI wA N c W' :=
  ⟨h.only.next (below_only hb), (hb.block _ (Array.getElem?_eq_some_iff.1 h.n).1).trans h.n⟩
theorem TI.other {wA W W' : World} {N c : Nat} (h : TI wA N c W) (hN : N < wA.heap.size) (ho : Only (fun j => j = wA.heap.size + 1) W W') : TI wA N c W' :=
  ⟨h.only.trans ho (fun j hj d => by omega), (ho.block _ (Array.getElem?_eq_some_iff.1 h.n).1 (by omega)).trans h.n⟩
theorem TI.step {wA W Z : World} {N c : Nat} (h : TI wA N c W) (hb : Below W.heap.size W Z) :
    (Z.cell? ⟨N, 0, none⟩ = some (.int .i64 (c : Int)) ∧ Z.frozen? ⟨N, 0, none⟩ = false) ∧ (Z.setCell ⟨N, 0, none⟩ (.int .i64 ((c : Int) + 1))).cell? ⟨N, 0, none⟩ = some (.int .i64 ((c : Int) + 1)) ∧
    Only (fun j => j = N) W (Z.setCell ⟨N, 0, none⟩ (.int .i64 ((c : Int) + 1))) ∧ TI wA N (c + 1) (Z.setCell ⟨N, 0, none⟩ (.int .i64 ((c : Int) + 1))) := by
  have h1 := h.below hb
  obtain ⟨sN, oN⟩ := set_one (i := 0) (.int .i64 ((c : Int) + 1)) h1.n
  have hO : Only (fun j => j = N) W (Z.setCell ⟨N, 0, none⟩ (.int .i64 ((c : Int) + 1))) := (below_only hb).next oN
  exact ⟨⟨(cell_of_row _ _ 0 _ 3 (0, 0) h1.n).trans rfl, frozen_of_row _ _ 0 _ 3 h1.n⟩, (cell_of_row _ _ 0 _ 3 (0, 0) sN).trans rfl, hO, h.only.next hO, by simpa using sN⟩
theorem new4 (w : World) (o1 o2 o3 o4 : Obj) : ((((w.alloc o1).alloc o2).alloc o3).alloc o4).heap[w.heap.size]? = some o1 ∧ ((((w.alloc o1).alloc o2).alloc o3).alloc o4).heap[w.heap.size + 1]? = some o2 ∧ ((((w.alloc o1).alloc o2).alloc o3).alloc o4).heap[w.heap.size + 2]? = some o3 ∧ ((((w.alloc o1).alloc o2).alloc o3).alloc o4).heap[w.heap.size + 3]? = some o4 ∧ Below w.heap.size w ((((w.alloc o1).alloc o2).alloc o3).alloc o4) := by
  obtain ⟨a, b, c, d⟩ := new3 w o1 o2 o3
  have h4 := heap_alloc_new (((w.alloc o1).alloc o2).alloc o3) o4
  have hs : (((w.alloc o1).alloc o2).alloc o3).heap.size = w.heap.size + 3 := by simp
  have hb : Below (((w.alloc o1).alloc o2).alloc o3).heap.size (((w.alloc o1).alloc o2).alloc o3) ((((w.alloc o1).alloc o2).alloc o3).alloc o4) := (Below.refl _ _).alloc (Nat.le_refl _) _
  rw [hs] at h4
  exact ⟨(hb.block _ (by omega)).trans a, (hb.block _ (by omega)).trans b, (hb.block _ (by omega)).trans c, h4, d.trans (hb.mono d.size)⟩
theorem fn_nil34 (f : Fn) (x y : Array Value) (w : World) : (binOp .eql 34 (.func f x y) .nilFunc).run Try.prog w = .ok (.bool false) w := by kernel_rfl
/-- What Split answers, for any number of parts. -/
def splitI (x : Int) (p : Int) : List Int := if p < 1 ∨ 64 < p then [] else splitL x p.toNat
theorem splitI_len (x p : Int) : (splitI x p).length ≤ 64 := by
  unfold splitI; split
  · simp
  · rw [splitL_len]; omega
theorem split_int {w : World} {n p : Int} (hn : In64 n) : Calls Try.prog 16 #[.int .i64 n, .int .i64 p] w fun e w' => MadeN 2 w w' e (splitI n p) := by
  unfold splitI
  by_cases h : p < 1 ∨ 64 < p
  · rw [if_pos h]
    refine (split_no (w := w) (n := n) h).mono ?_
    rintro e w' ⟨rfl, rfl⟩
    exact ⟨none, 0, rfl, Nw.nil _ _ _, fun _ => rfl, Below.refl _ _⟩
  · rw [if_neg h]
    have := split_yes (w := w) hn (p := p.toNat) (by omega) (by omega)
    rw [show ((p.toNat : Nat) : Int) = p by omega] at this
    exact this
theorem refSplit_int {w : World} {n p : Int} (hn : In64 n) : Calls Try.prog 17 #[.int .i64 n, .int .i64 p] w fun e w' => MadeN 2 w w' e (splitI n p) := by
  unfold splitI
  by_cases h : p < 1 ∨ 64 < p
  · rw [if_pos h]
    refine (refSplit_no (w := w) (n := n) h).mono ?_
    rintro e w' ⟨rfl, rfl⟩
    exact ⟨none, 0, rfl, Nw.nil _ _ _, fun _ => rfl, Below.refl _ _⟩
  · rw [if_neg h]
    have := refSplit_yes (w := w) hn (p := p.toNat) (by omega) (by omega)
    rw [show ((p.toNat : Nat) : Int) = p by omega] at this
    exact this

set_option maxHeartbeats 16000000 in
set_option maxRecDepth 100000 in
theorem steps_long (n leave : Int) (N : Nat) (ao : Option Addr) (c : Nat) (w : World) (hl : 1000 < N) :
    Calls Try.prog 4 #[.int .i64 n, .slice ao N c, .int .i64 leave] w fun e w' => e = .returned (.bool true) ∧ Below w.heap.size w w' := by
  obtain ⟨m0, m1, m2, m3, b1⟩ := new4 w (.cells #[.int .i64 n] 2) (.cells #[.slice ao N c] 23) (.cells #[.int .i64 leave] 3) (.cells #[.bool false] 4)
  have k6 := fun W => known_any W
  have z1 : (1000 : Int) < N := by omega
  have HM := hide (And.intro m3 b1)
  clear m0 m1 m2 m3 b1
  go_enter Try.func4, Try.ntmps4
  go_wp2_with (go_at_call 6; refine (k6 _).mono ?_; rintro e w2 ⟨rfl, b2⟩; have rr2 := (b2.block _ (Array.getElem?_eq_some_iff.1 HM.out.1).1).trans HM.out.1; have cr2 : w2.cell? ⟨w.heap.size + 1 + 1 + 1, 0, none⟩ = some (.bool false) := (cell_of_row _ _ 0 _ 4 (0, 0) rr2).trans rfl; have fr2 : w2.frozen? ⟨w.heap.size + 1 + 1 + 1, 0, none⟩ = false := frozen_of_row _ _ 0 _ 4 rr2; have HS2 := hide (And.intro b2 rr2); clear rr2 b2)
  obtain ⟨S2, rr2⟩ := HS2.out
  obtain ⟨s5, o5⟩ := set_one (i := 0) (.bool true) rr2
  have b3 := HM.out.2.trans (S2.mono HM.out.2.size)
  exact ret_cell (fn := Try.f4) (w.heap.size + 1 + 1 + 1) (x := true) rfl rfl ((cell_of_row _ _ 0 _ 4 (0, 0) s5).trans rfl) rfl ⟨rfl, Below.only b3 o5 b3.size (fun j d => by omega)⟩
end Go.Proofs.Ytlhfkdgdbjinoaa
