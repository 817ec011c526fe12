/-
  PROVED: the law CounterSums of layer 10 (counter) returns true and leaves its arguments as they are: the sums of counters are those of the chapter, also where they go round past the greatest number; for every base, any two numbers, any list, with no condition.
-/
import Derived.Test.YtlhfkdgdbjinoaaOpen10
import Derived.Test.YtlhfkdgdbjinoaaSumsW
namespace Go.Proofs.Ytlhfkdgdbjinoaa
open Go.ChangeShapes Go.WideShapes Go.ChangeAt Go.RowKit
theorem cells_agg {v : Value} {n : Nat} (h : v.cells.toList.length = n) (hn : n ≠ 1) : ∃ cs : List Value, v = .agg cs.toArray ∧ cs.length = n ∧ v.cells.toList = cs := by
  cases v with
  | agg cs => exact ⟨cs.toList, by simp, by simpa [Value.cells] using h, rfl⟩
  | _ => simp [Value.cells] at h; exact absurd h.symm hn
theorem Try.cells22 : Try.prog.cellsOf 22 = 2 := by kernel_rfl
/-- An array of two numbers that came in. -/
theorem open_pair {H : Type} {enc : TypeId × Value → H} {W : World} {v : Value} {d : DataW H} {p : List MemPlace} (h : DataW.Trod enc Try.prog W 0 (fun _ => true) true 22 v d p) : ∃ x y : Int, v = .agg #[.int .i64 x, .int .i64 y] := by
  obtain ⟨fuel, hf⟩ := h
  obtain ⟨xs, n, _, hx, hlen, hl2, hea⟩ := DataW.trod_array Try.underlying22 hf
  rw [Try.cells22] at hlen
  obtain ⟨cs, rfl, hcs, hcc⟩ := cells_agg hlen (by decide)
  rw [hcc] at hea
  match cs, hcs, xs, hl2 with
  | [c0, c1], _, [y0, y1], _ =>
    have e0 := hea 0 (by omega)
    have e1 := hea 1 (by omega)
    simp only [Try.cells2, Nat.zero_mul, Nat.one_mul, List.drop_zero, List.take_succ_cons, List.take_zero, List.drop_succ_cons, List.getElem?_cons_zero, List.getElem?_cons_succ] at e0 e1
    obtain ⟨a, ha, _⟩ := DataW.trod_int Try.underlying2 e0
    obtain ⟨b, hb, _⟩ := DataW.trod_int Try.underlying2 e1
    cases ha
    cases hb
    exact ⟨a, b, rfl⟩
end Go.Proofs.Ytlhfkdgdbjinoaa
namespace Go.Proofs.Ytlhfkdgdbjinoaa.counterSums
open Go.ChangeShapes Go.WideShapes Go.ChangeAt Go.RowKit Go.Shelf

set_option maxRecDepth 100000 in
theorem lifted (os : Os) (started : os.Started) (H : Type) (enc : TypeId × Value → H) :
    ReturnsInHanded {} Try.checked os 3 .any (Rows.counterSumsSpec.pre6 enc Try.prog Try.f3 Rows.counterSumsRow.domain false) (Rows.counterSumsSpec.post enc Try.prog Try.f3 false true false false) := by
  refine returnsInHanded_of_change (C := Try.checked) own started (by kernel_rfl) Try.func3
    (ChangeSpec.witness6 (enc := enc) (C := Try.checked) false ⟨#[], #[.int .i64 0, .agg #[.int .i64 0, .int .i64 0], .slice none 0 0], []⟩ 8 (by kernel_rfl) (by kernel_rfl) (by kernel_rfl) (by kernel_rfl)) ?_
  intro W base args ds gs before hval0 hW hcnd _
  have hval : ∀ (j : Nat) t v, Try.f3.params[j]? = some t → args[j]? = some v → Value.okWide Try.prog W .any base t v := hval0
  have hW' := hW
  obtain ⟨p, q, hA0, hV, rfl, hfz, hnd⟩ := hW
  have hA : DataW.TrodAll enc Try.prog W 0 (fun _ => true) true Try.f3.params.toList args.toList ds p := hA0
  rw [show Try.f3.params.toList = [2, 22, 23] from rfl] at hA
  obtain ⟨v0, v1, v2, d0, d1, d2, p0, p1, p2, rfl, rfl, rfl, h0, h1, h2⟩ := trodAll_three hA
  obtain ⟨rfl, rfl⟩ := trodVars_none hV
  have k0 := h0
  have k1 := h1
  have k2 := h2
  have lt0 : ∀ x ∈ p0, x.block < W.heap.size := by obtain ⟨m, hm⟩ := k0; exact DataW.trod_lt m _ _ _ hm
  have lt1 : ∀ x ∈ p1, x.block < W.heap.size := by obtain ⟨m, hm⟩ := k1; exact DataW.trod_lt m _ _ _ hm
  have lt2 : ∀ x ∈ p2, x.block < W.heap.size := by obtain ⟨m, hm⟩ := k2; exact DataW.trod_lt m _ _ _ hm
  obtain ⟨n, rfl, rfl, rfl, hwf⟩ := open_int Try.underlying2 (hval 0 2 v0 rfl rfl) h0
  obtain ⟨x, y, rfl⟩ := open_pair h1
  obtain ⟨ao, c, l, rfl, rl, nl, ll, il⟩ := open_nums (hval 2 23 v2 rfl rfl) h2
  clear hA0 hval0
  have hwalk : Calls Try.prog 3 #[.int .i64 n, .agg #[.int .i64 x, .int .i64 y], .slice ao l.length c] W fun e w' => e = .returned (.bool true) ∧ Below W.heap.size W w' := by
    by_cases hs : l.length ≤ 1000
    · exact sums_walk n x y l ao c W (in64_wf hwf) rl nl hs
    · exact sums_long n x y l.length ao c W (by omega)
  refine hwalk.mono fun e W' ⟨he, bel⟩ => ?_
  subst he
  exact ⟨_, rfl, _, _, _, [], _, [], hW', trodAll_mk1 (shut_bool Try.underlying4 _), trodAll_mk3 (Below.trod laidOut (by kernel_rfl) (of_decide_eq_true (by kernel_rfl)) k0 bel lt0) (Below.trod laidOut (by kernel_rfl) (of_decide_eq_true (by kernel_rfl)) k1 bel lt1) (Below.trod laidOut (by kernel_rfl) (of_decide_eq_true (by kernel_rfl)) k2 bel lt2), rfl, bel.frame _, fun h => by cases h⟩

theorem over : Rows.counterSumsRow.holds Try.pinned (OpenSpec.ofChange Rows.counterSumsSpec) :=
  OpenClaim.holds_of_wide 3 Try.f3 rfl rfl rfl rfl rfl rfl rfl ⟨rfl, rfl, rfl, rfl, rfl⟩ rfl rfl rfl rfl rfl (by kernel_rfl) Try.func3 (by kernel_rfl)
    (of_decide_eq_true (by kernel_rfl)) (by unfold Func.isWrapper; first | (rw [if_pos (by decide +kernel)]; kernel_rfl) | (rw [if_neg (by decide +kernel)]; exact ⟨rfl, rfl⟩))
    (fun os started H enc _ => lifted os started H enc)
end Go.Proofs.Ytlhfkdgdbjinoaa.counterSums
namespace Go.Proofs.Ytlhfkdgdbjinoaa
/-- The statement. -/
theorem counterSums_holds : Rows.CounterSumsSaid := counterSums.over
#print axioms counterSums_holds
end Go.Proofs.Ytlhfkdgdbjinoaa
