/-
  SMALL LAWS for the walk over WireLists: pairs that are read, laid on pairs that are owned; two pairs held against each other.
-/
import Derived.Test.YtjbnhfcacocgeaaListsL
import Derived.Test.YtjbnhfcacocgeaaReadsW
import Derived.Laws.StructEq
namespace Go.Proofs.Ytjbnhfcacocgeaa
open Go.RowKit

theorem OwnP.rd {w : World} {B n cap : Nat} {ao : Option Addr} {ps : List (Nat × Nat)} (h : OwnP w B (.slice ao n cap) ps) : RdP w ao ps := by
  have hcells := fun g => World.ownsRow.cells h (g := g)
  rcases h.2 with ⟨h1, hn⟩ | ⟨g, cap', cur, h1, _⟩
  · simp only [Value.slice.injEq] at h1
    obtain ⟨rfl, _, _⟩ := h1
    exact ⟨fun _ => List.eq_nil_of_length_eq_zero hn, by simp⟩
  · simp only [Value.slice.injEq] at h1
    obtain ⟨rfl, _, rfl⟩ := h1
    refine ⟨by simp, ?_⟩
    intro a ha j u hj
    cases ha
    exact hcells g rfl j u hj

theorem OwnP.lens {w : World} {B n cap : Nat} {ao : Option Addr} {ps : List (Nat × Nat)} (h : OwnP w B (.slice ao n cap) ps) : n = ps.length ∧ n ≤ cap ∧ (ao = none → cap = 0) := by
  rcases h.2 with ⟨h1, hn⟩ | ⟨g, cap', cur, h1, h2⟩
  · simp only [Value.slice.injEq] at h1
    obtain ⟨rfl, rfl, rfl⟩ := h1
    exact ⟨hn.symm, by omega, fun _ => rfl⟩
  · simp only [Value.slice.injEq] at h1
    obtain ⟨rfl, rfl, rfl⟩ := h1
    exact ⟨rfl, h2.2.2.1, by simp⟩

theorem RdP.take {w : World} {ao : Option Addr} {ps : List (Nat × Nat)} (h : RdP w ao ps) (qs : List (Nat × Nat)) {rs : List (Nat × Nat)} (he : ps = qs ++ rs) : RdP w ao qs :=
  ⟨fun ha => by have := h.1 ha; rw [he] at this; simp at this; exact this.1, fun a ha j u hj => h.2 a ha j u (by
    rw [he, prs_append, List.getElem?_append_left (List.getElem?_eq_some_iff.1 hj).1]
    exact hj)⟩

theorem prs_one : ∀ {ps : List (Nat × Nat)}, ∀ u ∈ prs ps, u.oneCell' = true
  | [], u, h => by simp [prs] at h
  | p :: r, u, h => by
    simp only [prs, List.mem_cons] at h
    rcases h with rfl | rfl | h
    · rfl
    · rfl
    · exact prs_one u h

/-- Pairs that are read, laid on what is owned, at a call of append. -/
theorem wpList_append_rdP {w : World} {ops : Array Oper} {rest : List Oper} {o : Oper} {a : Act} {Q : Exit → Act → World → Prop} (hgd : o.guard = none) (s x : Operand)
    (ho : o.op = .call { callee := .builtin .append, args := #[s, x], argTypes := #[58, 58] })
    (B : Nat) (v : Value) (p : List (Nat × Nat)) (hs : a.eval s = v) (hown : OwnP w B v p)
    (ao : Option Addr) (c : Nat) (l : List (Nat × Nat)) (hx : a.eval x = .slice ao l.length c) (hc : ao = none → c = 0) (hrd : RdP w ao l)
    (hbytes : p.length + l.length ≤ 1099511627776) (hbase : B ≤ w.heap.size)
    (h : ∀ ao' cap' w', OwnP w' B (.slice ao' (p.length + l.length) cap') (p ++ l) → w.grownBy w' v.ownBlock →
      wpList Try.prog ops Q rest (a.put o.dst (.slice ao' (p.length + l.length) cap')) w') : wpList Try.prog ops Q (o :: rest) a w := by
  obtain ⟨i0, hi, hz0, hz1, hz2⟩ := info_parts Try.info59
  cases ao with
  | none =>
    have hl := hrd.1 rfl
    subst hl
    have hc0 := hc rfl
    subst hc0
    obtain ⟨ao', cap', rfl⟩ := hown.form
    refine wpList_append_own_none hgd s x 58 ho B 59 i0 2 Try.underlying58 hi _ _ _ hs hown hx ?_
    have := h ao' cap' w (by simpa using hown) (World.grownBy.refl _ _)
    simpa using this
  | some ad =>
    refine wpList_append_own w hgd s x 58 ho B 59 i0 (.agg #[.int .u64 0, .int .u64 0]) 2 16 Try.underlying58 hi hz0 hz1 hz2 rfl (by decide) v _ _ hs hown ad l.length c (prs l) hx (prs_length l) (fun j u hj => hrd.2 ad rfl j u hj) prs_one
      (by unfold maxLen; omega) (by omega) hbase ?_
    intro v' w' hown' hg _
    have hown2 : OwnP w' B v' (p ++ l) := by
      unfold OwnP; rw [prs_append, List.length_append]; exact hown'
    obtain ⟨ao', cap', rfl⟩ := hown2.form
    have := h ao' cap' w' (by simpa using hown2) hg
    simpa using this

theorem below_ownP {B : Nat} {w wr w1 : World} {v : Value} {l : List (Nat × Nat)} (hb : Below B w wr) (hBw : B ≤ wr.heap.size)
    (hown : OwnP wr B v l) (hg : wr.grownBy w1 v.ownBlock) : Below B w w1 :=
  hb.grown hg hBw (fun k hk => by have := (World.ownsRow.lt hown k hk).1; omega)
theorem OwnP.below {w w' : World} {B : Nat} {v : Value} {l : List (Nat × Nat)} (h : OwnP w B v l) (hb : Below w.heap.size w w') : OwnP w' B v l :=
  World.ownsRow.kept (row := none) h ⟨hb.os, hb.tape, hb.output, hb.size, fun k hk _ => hb.block k hk⟩ (by cases v.ownBlock <;> simp)

/-- Two pairs that are alike are alike. -/
theorem equal59 (x y : Int) (w : World) : (Op.equalIn 10000 59 (.agg #[.int .u64 x, .int .u64 y]) (.agg #[.int .u64 x, .int .u64 y])).run Try.prog w = .ok true w := by
  have h59 : Try.prog.underlying 59 = some (.array 2 22) := by kernel_rfl
  have h22 := Try.underlying22
  have a22 := Try.isAgg22
  have z22 := Try.sizeOf22
  rw [show (10000 : Nat) = 9999 + 1 from rfl, Op.equalIn]
  simp only [Sem.run_bind, run_underlying h59, Result.andThen_ok]
  simp only [Std.Legacy.Range.forIn_eq_forIn_range', Std.Legacy.Range.size, Nat.sub_zero, Nat.add_sub_cancel, Nat.div_one, List.range'_succ, List.range'_zero, List.forIn_cons, List.forIn_nil]
  go_simp
theorem guard59 : Try.prog.eqGuardType Try.prog.depth 59 = false := by kernel_rfl
theorem neq59 (x y : Int) (w : World) : (binOp .neq 59 (.agg #[.int .u64 x, .int .u64 y]) (.agg #[.int .u64 x, .int .u64 y])).run Try.prog w = .ok (.bool false) w := by
  rw [run_neq_struct, equal59]
  rfl
theorem build59 (x y : Int) (w : World) : (Instr.build 59 #[(0, .int .u64 x), (1, .int .u64 y)]).run Try.prog w = .ok (.agg #[.int .u64 x, .int .u64 y]) w := run_build w 59 _ _ (by kernel_rfl)
end Go.Proofs.Ytjbnhfcacocgeaa
