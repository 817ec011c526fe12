/-
  WALKS over the program's small functions: there, isArea, bytes.Clone, bytes.Equal, told, doers.
-/
import Derived.Test.YtfaceimamipbpaaDisk
import Derived.WalkMore
namespace Go.Proofs.Ytfaceimamipbpaa
open Go.RowKit
set_option linter.unusedSimpArgs false

set_option maxHeartbeats 400000 in
set_option maxRecDepth 100000 in
theorem there_yes (R : Nat) (cap : Int) (w : World) (h : w.cell? ⟨R, 0, none⟩ = some (.int .i64 cap)) (hc : 0 < cap) :
    Calls Try.prog 36 #[.pointer (some ⟨R, 0, none⟩)] w fun e w' => e = .returned (.bool true) ∧ w = w' := by
  have hd : decide (0 < cap) = true := by simp; omega
  go_enter Try.func36, Try.ntmps36
  go_wp2
  go_ret
  exact ⟨rfl, rfl⟩
set_option maxHeartbeats 400000 in
set_option maxRecDepth 100000 in
theorem there_zero (R : Nat) (w : World) (h : w.cell? ⟨R, 0, none⟩ = some (.int .i64 0)) :
    Calls Try.prog 36 #[.pointer (some ⟨R, 0, none⟩)] w fun e w' => e = .returned (.bool false) ∧ w = w' := by
  go_enter Try.func36, Try.ntmps36
  go_wp2
  go_ret
  exact ⟨rfl, rfl⟩
set_option maxHeartbeats 400000 in
set_option maxRecDepth 100000 in
theorem there_nil (w : World) :
    Calls Try.prog 36 #[.pointer none] w fun e w' => e = .returned (.bool false) ∧ w = w' := by
  go_enter Try.func36, Try.ntmps36
  go_wp2
  go_ret
  exact ⟨rfl, rfl⟩

set_option maxHeartbeats 400000 in
set_option maxRecDepth 100000 in
theorem isArea_any (i : Int) (w : World) :
    Calls Try.prog 25 #[.int .i64 i] w fun e w' => e = .returned (.bool (i == 0 || i == 1)) ∧ w = w' := by
  by_cases h0 : i = 0
  · subst h0
    go_enter Try.func25, Try.ntmps25
    go_wp2
    go_ret
    exact ⟨rfl, rfl⟩
  · have hb : (i == 0) = false := by simpa using h0
    go_enter Try.func25, Try.ntmps25
    go_wp2
    go_ret
    exact ⟨by simp [hb], rfl⟩
theorem isArea_yes (i : Int) (w : World) (hi : i = 0 ∨ i = 1) : Calls Try.prog 25 #[.int .i64 i] w fun e w' => e = .returned (.bool true) ∧ w = w' := by
  refine (isArea_any i w).mono ?_
  rintro e w' ⟨rfl, rfl⟩
  refine ⟨?_, rfl⟩
  rcases hi with rfl | rfl <;> rfl
theorem isArea_no (i : Int) (w : World) (hi : ¬ (i = 0 ∨ i = 1)) : Calls Try.prog 25 #[.int .i64 i] w fun e w' => e = .returned (.bool false) ∧ w = w' := by
  refine (isArea_any i w).mono ?_
  rintro e w' ⟨rfl, rfl⟩
  refine ⟨?_, rfl⟩
  have h0 : (i == 0) = false := by simp; omega
  have h1 : (i == 1) = false := by simp; omega
  rw [h0, h1]; rfl

theorem sl_some (w : World) (a : Addr) (n c : Nat) : (binOp .eql 22 (.slice (some a) n c) (.slice none 0 0)).run Try.prog w = .ok (.bool false) w := by kernel_rfl
theorem sl_none (w : World) : (binOp .eql 22 (.slice none 0 0) (.slice none 0 0)).run Try.prog w = .ok (.bool true) w := by kernel_rfl
/-- The cells of a block of three. -/
theorem blk3 {w : World} {R : Nat} {t : TypeId} {x y z : Value} (h : w.heap[R]? = some (.cells #[x, y, z] t (0, 0))) : w.cell? ⟨R, 0, none⟩ = some x ∧ w.cell? ⟨R, 1, none⟩ = some y ∧ w.cell? ⟨R, 2, none⟩ = some z ∧ w.frozen? ⟨R, 0, none⟩ = false ∧ w.frozen? ⟨R, 1, none⟩ = false ∧ w.frozen? ⟨R, 2, none⟩ = false := by
  refine ⟨?_, ?_, ?_, frozen_of_row w R 0 _ t h, frozen_of_row w R 1 _ t h, frozen_of_row w R 2 _ t h⟩
  · rw [cell_of_row w R 0 _ t (0, 0) h]; rfl
  · rw [cell_of_row w R 1 _ t (0, 0) h]; rfl
  · rw [cell_of_row w R 2 _ t (0, 0) h]; rfl
theorem new2 (w : World) (o o' : Obj) : ((w.alloc o).alloc o').heap[w.heap.size]? = some o ∧ ((w.alloc o).alloc o').heap[w.heap.size + 1]? = some o' := by
  refine ⟨?_, ?_⟩
  · exact (World.grownBy_alloc (w.alloc o) o' none).block _ (by simp) (by simp) |>.trans (heap_alloc_new w o)
  · have := heap_alloc_new (w.alloc o) o'
    simpa using this

/-- A struct or an array that is handed back out of its block. -/
theorem ret_row {P : Program} {fn : Func} {p : Tmp} {ty : TypeId} (b : Nat) (cs : List Value) {R : Ending → World → Prop} {a : Act} {w : World} (h : fn.results = #[.cell p ty]) (hp : a.tmps.getD p undef = .pointer (some ⟨b, 0, none⟩))
    {d : TypeDesc} (hu : P.underlying ty = some d) (hd : d.isRow = true) (hi : (P.info? ty).map (·.size) = some cs.length) {t : TypeId} {fr : Nat × Nat} (hc : w.heap[b]? = some (.cells cs.toArray t fr)) (hdef : a.defers = [])
    (hR : R (.returned (.agg cs.toArray)) w) : bodyPost P fn R .ret a w := by
  refine bodyPost_ret (v := .agg cs.toArray) ?_ hdef hR
  rw [results_cell h, hp]
  have := run_loadVar_mid (P := P) w b 0 ty cs _ (fun j v hv => by rw [cell_of_row w b (0 + j) cs.toArray t fr hc, Nat.zero_add]; simpa using hv) hu hd hi
  simp [asAddr, Result.andThen, this]

set_option maxHeartbeats 400000 in
set_option maxRecDepth 100000 in
theorem clone_any (ao : Option Addr) (c : Nat) (l : List Int) (w : World) (hr : Rd w ao l) (hn : ao = none → c = 0) (hl : l.length ≤ 140737488355328) :
    Calls Try.prog 26 #[.slice ao l.length c] w fun e w' => Made 5 w w' e l := by
  cases ao with
  | none =>
    have h0 := hr.1 rfl
    subst h0
    have hc := hn rfl
    subst hc
    have hq := sl_none w
    go_enter Try.func26, Try.ntmps26
    go_wp2
    go_ret
    exact ⟨none, 0, rfl, Own.nil _ _ _, by simp, Below.refl _ _⟩
  | some a =>
    obtain ⟨i0, hi, hz0, hz1, hz2⟩ := info_parts Try.info5
    have hr1 : Rd (w.alloc (.cells #[] 5)) (some a) l := hr.alloc _
    have ho : Own 5 (w.alloc (.cells #[] 5)) w.heap.size (.slice (some ⟨w.heap.size, 0, none⟩) 0 0) [] := World.ownsRow_made w #[] 0 (Nat.le_refl _) (by unfold maxLen; omega) rfl
    have hq := sl_some w a l.length c
    go_enter Try.func26, Try.ntmps26
    go_wp2_with (refine wpList_append_rd (w := w.alloc (.cells #[] 5)) rfl (.tmp 5) (.tmp 6) 22 rfl w.heap.size 5 i0 Try.underlying22 hi hz0 hz1 hz2 _ [] rfl ho (some a) c l rfl (by simp) hr1 (by simpa using hl) (by simp) ?_; intro ao2 cap2 w2 hown2 hg2 hnil2)
    go_ret
    refine ⟨ao2, cap2, by simp, by simpa using hown2, hnil2, ?_⟩
    exact ((Below.refl _ w).alloc (Nat.le_refl _) _).grown hg2 (by simp) (fun k hk => (World.ownsRow.lt ho k hk).1)

set_option maxHeartbeats 400000 in
set_option maxRecDepth 100000 in
theorem equal_any (ao bo : Option Addr) (c d : Nat) (l m : List Int) (w : World) (hl : Rd w ao l) (hm : Rd w bo m) (ul : U8 l) (um : U8 m) :
    Calls Try.prog 40 #[.slice ao l.length c, .slice bo m.length d] w fun e w' => e = .returned (.bool (decide (l = m))) ∧ w = w' := by
  have h1 := conv_rd (n := l.length) (cap := c) hl rfl
  have h2 := conv_rd (n := m.length) (cap := d) hm rfl
  by_cases h : l = m
  · subst h
    go_enter Try.func40, Try.ntmps40
    go_wp2
    go_ret
    exact ⟨by simp, rfl⟩
  · have h3 := str_ne ul um h
    go_enter Try.func40, Try.ntmps40
    go_wp2
    go_ret
    exact ⟨by simp [h], rfl⟩

/-- A raw write as a value. -/
def wrv (k a : Int) (ao : Option Addr) (n c : Nat) : Value := .agg #[.int .i64 k, .int .i64 a, .slice ao n c]

set_option maxHeartbeats 400000 in
set_option maxRecDepth 100000 in
theorem told_any (k a : Int) (ao : Option Addr) (c : Nat) (l : List Int) (w : World) (hr : Rd w ao l) (hn : ao = none → c = 0) (hl : l.length ≤ 140737488355328) :
    Calls Try.prog 39 #[wrv k a ao l.length c] w fun e w' => ∃ ao' c', e = .returned (wrv k a ao' l.length c') ∧ Own 5 w' w.heap.size (.slice ao' l.length c') l ∧ (ao' = none → c' = 0) ∧ Below w.heap.size w w' := by
  unfold wrv
  go_enter Try.func39, Try.ntmps39
  go_wp2_with (go_at_call 26; refine (clone_any ao c l _ ((hr.alloc _).alloc _) hn hl).mono ?_; rintro e w1 ⟨ao1, c1, rfl, ho1, hn1, hb1⟩; obtain ⟨q1, q2⟩ := new2 w (.cells #[.int .i64 k, .int .i64 a, .slice ao l.length c] 50) (.cells #[.int .i64 0, .int .i64 0, .slice none 0 0] 50); obtain ⟨k0, k1, k2, f0, f1, f2⟩ := blk3 ((hb1.block _ (by simp; omega)).trans q1); obtain ⟨j0, j1, j2, g0, g1, g2⟩ := blk3 ((hb1.block _ (by simp)).trans q2))
  have r1 : Below w.heap.size w w1 := (((Below.refl _ w).alloc (Nat.le_refl _) _).alloc (by simp) _).trans (hb1.mono (by simp; omega))
  have hs : w.heap.size + 2 ≤ w1.heap.size := by have := hb1.size; simpa using this
  have r2 := ((((Only.refl (fun k => k = w.heap.size ∨ k = w.heap.size + 1) w1).setCell ⟨w.heap.size, 2, none⟩ (.slice ao1 l.length c1) (fun _ => .inl rfl)).setCell ⟨w.heap.size + 1, 0, none⟩ (.int .i64 k) (fun _ => .inr rfl)).setCell ⟨w.heap.size + 1, 1, none⟩ (.int .i64 a) (fun _ => .inr rfl)).setCell ⟨w.heap.size + 1, 2, none⟩ (.slice ao1 l.length c1) (fun _ => .inr rfl)
  have r3 := (hb1.block _ (by simp)).trans q2
  refine ret_row (w.heap.size + 1) [.int .i64 k, .int .i64 a, .slice ao1 l.length c1] rfl rfl Try.underlying50 rfl (by kernel_rfl) (t := 50) (fr := (0, 0)) ?_ rfl ?_
  · rw [heap_setCell_same _ _ _ _ 50 _ (heap_setCell_same _ _ _ _ 50 _ (heap_setCell_same _ _ _ _ 50 _ ((heap_setCell_other _ _ _ _ (by simp)).trans r3)))]
    simp
  · refine ⟨ao1, c1, rfl, ?_, hn1, Below.only r1 r2 (by omega) (by omega)⟩
    refine (r2.own ho1 ?_).lift (by simp; omega)
    intro j hj hd
    have := (World.ownsRow.lt ho1 j hj).1
    simp at this
    omega

set_option maxHeartbeats 400000 in
set_option maxRecDepth 100000 in
theorem doers_any (w : World) :
    Calls Try.prog 43 #[] w fun e w' => e = .returned (.agg #[.nilFunc, .func (.func 44) #[] #[], .func (.func 45) #[] #[], .func (.func 46) #[] #[]]) ∧ Below w.heap.size w w' := by
  go_enter Try.func43, Try.ntmps43
  go_wp2_with (refine wpList_store_new 81 (.tmp 0) (.tmp 1) w.heap.size 4 [.nilFunc, .func (.func 44) #[] #[], .func (.func 45) #[] #[], .func (.func 46) #[] #[]] rfl rfl rfl rfl rfl (by kernel_rfl) rfl rfl rfl (by simp [Value.oneCell']) ?_)
  exact ret_row w.heap.size [.nilFunc, .func (.func 44) #[] #[], .func (.func 45) #[] #[], .func (.func 46) #[] #[]] rfl rfl Try.underlying81 rfl (by kernel_rfl) (heap_alloc_new w _) rfl ⟨rfl, (Below.refl _ w).alloc (Nat.le_refl _) _⟩
end Go.Proofs.Ytfaceimamipbpaa
