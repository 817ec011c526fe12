/-
  WALKS over the frame layer's small functions: Size, bytes.Clone, told, the header's lay and length, the document's word.
-/
import Derived.Test.YtmabfaldndlneaaMoves
import Derived.Test.YtmabfaldndlneaaEqs
namespace Go.Proofs.Ytmabfaldndlneaa
open Go.RowKit Crc
set_option linter.unusedSimpArgs false

/-- The cells of a block of two. -/
theorem blk2 {w : World} {R : Nat} {t : TypeId} {x y : Value} (h : w.heap[R]? = some (.cells #[x, y] t (0, 0))) : w.cell? ⟨R, 0, none⟩ = some x ∧ w.cell? ⟨R, 1, none⟩ = some y ∧ w.frozen? ⟨R, 0, none⟩ = false ∧ w.frozen? ⟨R, 1, none⟩ = false := by
  refine ⟨?_, ?_, frozen_of_row w R 0 _ t h, frozen_of_row w R 1 _ t h⟩
  · rw [cell_of_row w R 0 _ t (0, 0) h]; rfl
  · rw [cell_of_row w R 1 _ t (0, 0) h]; rfl

/-- A slice of bytes, as the functions take it. -/
structure Bs (w : World) (ao : Option Addr) (c : Nat) (l : List Int) : Prop where
  rd : Rd w ao l
  cap : l.length ≤ c
  nil : ao = none → c = 0
  u8 : U8 l
theorem Bs.below {w w' : World} {ao : Option Addr} {c : Nat} {l : List Int} (h : Bs w ao c l) (k : Below w.heap.size w w') : Bs w' ao c l := ⟨h.rd.below k, h.cap, h.nil, h.u8⟩
theorem Bs.drewN {w : World} {ao : Option Addr} {c : Nat} {l : List Int} (h : Bs w ao c l) (n : Nat) : Bs (w.drewN n) ao c l := h.below (below_drew w n)
theorem Bs.drew {w : World} {ao : Option Addr} {c : Nat} {l : List Int} (h : Bs w ao c l) : Bs w.drew ao c l := h.below ((Below.refl _ w).drew)

/-- Where a part of a slice lies. -/
def sub (ao : Option Addr) (c i : Nat) : Option Addr := if c = i then ao else ao.map (fun x => x.add (i * 1))
theorem slice_lo {ao : Option Addr} {n c i : Nat} (hi : i ≤ n) (hc : n ≤ c) (w : World) : (Instr.slice 22 (.slice ao n c) (some (.int .i64 i)) none none).run Try.prog w = .ok (.slice (sub ao c i) (n - i) (c - i)) w := by
  have h1 : (0 : Int) ≤ (i : Int) ∧ (i : Int) ≤ (n : Int) := by omega
  have h2 : (0 : Int) ≤ (n : Int) ∧ (n : Int) ≤ (c : Int) := by omega
  simp [Instr.slice, Instr.sliceBounds, Instr.sliceBound, asIntOf, run_underlying Try.underlying22, go_sem, hi, hc, sub]
theorem slice_hi {ao : Option Addr} {n c j : Nat} (k : IntKind) (hj : j ≤ c) (hn : ao = none → c = 0) (w : World) : (Instr.slice 22 (.slice ao n c) none (some (.int k j)) none).run Try.prog w = .ok (.slice ao j c) w := by
  have h2 : (0 : Int) ≤ (j : Int) ∧ (j : Int) ≤ (c : Int) := by omega
  by_cases hc : c = 0
  · subst hc
    simp [Instr.slice, Instr.sliceBounds, Instr.sliceBound, asIntOf, run_underlying Try.underlying22, go_sem, hj]
  · cases ao with
    | none => exact (hc (hn rfl)).elim
    | some a => simp [Instr.slice, Instr.sliceBounds, Instr.sliceBound, asIntOf, run_underlying Try.underlying22, go_sem, hj, hc, Addr.add]
theorem slice_mid {ao : Option Addr} {n c i j : Nat} (hij : i ≤ j) (hj : j ≤ c) (w : World) : (Instr.slice 22 (.slice ao n c) (some (.int .i64 i)) (some (.int .i64 j)) none).run Try.prog w = .ok (.slice (sub ao c i) (j - i) (c - i)) w := by
  have h1 : (0 : Int) ≤ (i : Int) ∧ (i : Int) ≤ (j : Int) := by omega
  have h2 : (0 : Int) ≤ (j : Int) ∧ (j : Int) ≤ (c : Int) := by omega
  simp [Instr.slice, Instr.sliceBounds, Instr.sliceBound, asIntOf, run_underlying Try.underlying22, go_sem, hij, hj, sub]
theorem Bs.sub {w : World} {ao : Option Addr} {c : Nat} {l : List Int} (h : Bs w ao c l) {i j : Nat} (hij : i ≤ j) (hj : j ≤ l.length) : Bs w (sub ao c i) (c - i) ((l.drop i).take (j - i)) := by
  have hcap := h.cap
  obtain ⟨A, h1, h2⟩ := slice_rd (cap := c) h.rd rfl hij hj hcap
  have h3 := slice_mid (ao := ao) (n := l.length) hij (Nat.le_trans hj hcap) w
  rw [h1 w] at h3
  simp only [Result.ok.injEq, Value.slice.injEq, and_true] at h3
  subst h3
  refine ⟨h2, by simp; omega, fun hn => ?_, (h.u8.drop i).take _⟩
  unfold Ytmabfaldndlneaa.sub at hn
  split at hn
  · omega
  · cases ao with
    | none => have := h.nil rfl; omega
    | some a => simp at hn
theorem Bs.from {w : World} {ao : Option Addr} {c : Nat} {l : List Int} (h : Bs w ao c l) {i : Nat} (hi : i ≤ l.length) : Bs w (Ytmabfaldndlneaa.sub ao c i) (c - i) (l.drop i) := by
  have := h.sub (i := i) (j := l.length) hi (Nat.le_refl _)
  rwa [List.take_of_length_le (by simp)] at this
theorem Bs.upto {w : World} {ao : Option Addr} {c : Nat} {l : List Int} (h : Bs w ao c l) {j : Nat} (hj : j ≤ l.length) : Bs w ao c (l.take j) :=
  ⟨h.rd.take j, by simp; have := h.cap; omega, h.nil, h.u8.take j⟩

set_option maxHeartbeats 400000 in
set_option maxRecDepth 100000 in
theorem size_any (ao : Option Addr) (n c : Nat) (w : World) (hn : n ≤ 4611686018427387904) : Calls Try.prog 16 #[.slice ao n c] w fun e w' => e = .returned (.int .i64 (9 + (n : Int))) ∧ w = w' := by
  go_enter Try.func16, Try.ntmps16
  go_wp2
  go_ret
  exact ⟨rfl, rfl⟩

set_option maxHeartbeats 400000 in
set_option maxRecDepth 100000 in
theorem num_any (n : Int) (w : World) : Calls Try.prog 8 #[.int .i64 n] w fun e w' => e = .returned (.int .i64 n) ∧ w = w' := by
  go_enter Try.func8, Try.ntmps8
  go_wp2
  go_ret
  exact ⟨rfl, rfl⟩
set_option maxHeartbeats 400000 in
set_option maxRecDepth 100000 in
theorem clone_any (ao : Option Addr) (c : Nat) (l : List Int) (w : World) (hr : Rd w ao l) (hn : ao = none → c = 0) (hl : l.length ≤ 140737488355328) :
    Calls Try.prog 20 #[.slice ao l.length c] w fun e w' => Made 5 w w' e l := by
  cases ao with
  | none =>
    have h0 := hr.1 rfl
    subst h0
    have hc := hn rfl
    subst hc
    have hq := sl_none w
    go_enter Try.func20, Try.ntmps20
    go_wp2
    go_ret
    exact ⟨none, 0, rfl, Own.nil _ _ _, by simp, Below.refl _ _⟩
  | some a =>
    obtain ⟨i0, hi, hz0, hz1, hz2⟩ := info_parts Try.info5
    have hr1 : Rd (w.alloc (.cells #[] 5)) (some a) l := hr.alloc _
    have ho : Own 5 (w.alloc (.cells #[] 5)) w.heap.size (.slice (some ⟨w.heap.size, 0, none⟩) 0 0) [] := World.ownsRow_made w #[] 0 (Nat.le_refl _) (by unfold maxLen; omega) rfl
    have hq := sl_some w a l.length c
    go_enter Try.func20, Try.ntmps20
    go_wp2_with (refine wpList_append_rd (w := w.alloc (.cells #[] 5)) rfl (.tmp 5) (.tmp 6) 22 rfl w.heap.size 5 i0 Try.underlying22 hi hz0 hz1 hz2 _ [] rfl ho (some a) c l rfl (by simp) hr1 (by simpa using hl) (by simp) ?_; intro ao2 cap2 w2 hown2 hg2 hnil2)
    go_ret
    refine ⟨ao2, cap2, by simp, by simpa using hown2, hnil2, ?_⟩
    exact ((Below.refl _ w).alloc (Nat.le_refl _) _).grown hg2 (by simp) (fun k hk => (World.ownsRow.lt ho k hk).1)

/-- A frame as a value. -/
abbrev frv (k : Int) (ao : Option Addr) (n c : Nat) : Value := .agg #[.int .i64 k, .slice ao n c]

set_option maxHeartbeats 400000 in
set_option maxRecDepth 100000 in
theorem told_any (k : Int) (ao : Option Addr) (c : Nat) (l : List Int) (w : World) (hr : Rd w ao l) (hn : ao = none → c = 0) (hl : l.length ≤ 140737488355328) :
    Calls Try.prog 21 #[frv k ao l.length c] w fun e w' => ∃ ao' c', e = .returned (frv k ao' l.length c') ∧ Own 5 w' w.heap.size (.slice ao' l.length c') l ∧ (ao' = none → c' = 0) ∧ Below w.heap.size w w' := by
  go_enter Try.func21, Try.ntmps21
  go_wp2_with (go_at_call 20; refine (clone_any ao c l _ ((hr.alloc _).alloc _) hn hl).mono ?_; rintro e w1 ⟨ao1, c1, rfl, ho1, hn1, hb1⟩; obtain ⟨q1, q2⟩ := new2 w (.cells #[.int .i64 k, .slice ao l.length c] 36) (.cells #[.int .i64 0, .slice none 0 0] 36); obtain ⟨k0, k1, f0, f1⟩ := blk2 ((hb1.block _ (by simp; omega)).trans q1); obtain ⟨j0, j1, g0, g1⟩ := blk2 ((hb1.block _ (by simp)).trans q2))
  have r1 : Below w.heap.size w w1 := (((Below.refl _ w).alloc (Nat.le_refl _) _).alloc (by simp) _).trans (hb1.mono (by simp; omega))
  have hs : w.heap.size + 2 ≤ w1.heap.size := by have := hb1.size; simpa using this
  have r2 := (((Only.refl (fun k => k = w.heap.size ∨ k = w.heap.size + 1) w1).setCell ⟨w.heap.size, 1, none⟩ (.slice ao1 l.length c1) (fun _ => .inl rfl)).setCell ⟨w.heap.size + 1, 0, none⟩ (.int .i64 k) (fun _ => .inr rfl)).setCell ⟨w.heap.size + 1, 1, none⟩ (.slice ao1 l.length c1) (fun _ => .inr rfl)
  have r3 := (hb1.block _ (by simp)).trans q2
  refine ret_row (w.heap.size + 1) [.int .i64 k, .slice ao1 l.length c1] rfl rfl Try.underlying36 rfl (by kernel_rfl) (t := 36) (fr := (0, 0)) ?_ rfl ?_
  · rw [heap_setCell_same _ _ _ _ 36 _ (heap_setCell_same _ _ _ _ 36 _ ((heap_setCell_other _ _ _ _ (by simp)).trans r3))]
    simp
  · refine ⟨ao1, c1, rfl, ?_, hn1, Below.only r1 r2 (by omega) (by omega)⟩
    refine (r2.own ho1 ?_).lift (by simp; omega)
    intro j hj hd
    have := (World.ownsRow.lt ho1 j hj).1
    simp at this
    omega
end Go.Proofs.Ytmabfaldndlneaa
