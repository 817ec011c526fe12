/-
  WALKS over a step (does): Lay; any step.
-/
import Derived.Test.YtfaceimamipbpaaDoes3
namespace Go.Proofs.Ytfaceimamipbpaa
open Go.RowKit
set_option linter.unusedSimpArgs false

section
variable {B : Nat} {X : Nat → Prop} {w : World} {D R : Nat} {cap : Int} {beg : St} {log : List Wr}
set_option maxHeartbeats 1000000 in
set_option maxRecDepth 100000 in
theorem does_lay (h : Twin B X w D R cap beg log log) (n : Int) (so : Option Addr) (sc : Nat) (l : List Int) (hr : ∀ w', Below B w w' → Rd w' so l) (hsn : so = none → sc = 0) (hu : U8 l) (hl : l.length ≤ 140737488351232) (hlog : log.length < 1000000) :
    Calls Try.prog 12 #[.pointer (some ⟨D, 0, none⟩), .pointer (some ⟨R, 0, none⟩), .agg #[.int .i64 1, .int .i64 n, .slice so l.length sc]] w (Did B w cap beg log) := by
  have hb0 : Below w.heap.size w (w.alloc (.cells #[.int .i64 1, .int .i64 n, .slice so l.length sc] 40)) := (Below.refl _ w).alloc (Nat.le_refl _) _
  have hs := h.size
  have hz : (w.alloc (.cells #[.int .i64 1, .int .i64 n, .slice so l.length sc] 40)).heap.size = w.heap.size + 1 := by simp
  have e1 : (w.alloc (.cells #[.int .i64 1, .int .i64 n, .slice so l.length sc] 40)).cell? ⟨w.heap.size, 1, none⟩ = some (.int .i64 n) := by rw [cell_of_row _ _ 1 _ 40 (0, 0) (heap_alloc_new w _)]; rfl
  have e2 : (w.alloc (.cells #[.int .i64 1, .int .i64 n, .slice so l.length sc] 40)).cell? ⟨w.heap.size, 2, none⟩ = some (.slice so l.length sc) := by rw [cell_of_row _ _ 2 _ 40 (0, 0) (heap_alloc_new w _)]; rfl
  have hlent := lent_any so sc l _ (hr _ (hb0.mono hs)) hsn hl
  have H := hide (And.intro h (And.intro hs (And.intro hb0 (And.intro hz (And.intro e1 e2)))))
  clear h hb0 hs hz e1 e2
  go_enter Try.func12, Try.ntmps12
  go_wp2_with (go_at_call 7; refine hlent.mono ?_; rintro e w1 ⟨mo, mc, rfl, hM, b1⟩)
  have hS0 : w1.drew.cell? ⟨w.heap.size, 1, none⟩ = some (.int .i64 n) ∧ w1.drew.cell? ⟨w.heap.size, 2, none⟩ = some (.slice so l.length sc) := ⟨(b1.cell (World.block_lt_of_cell? _ _ H.out.2.2.2.2.1)).trans H.out.2.2.2.2.1, (b1.cell (World.block_lt_of_cell? _ _ H.out.2.2.2.2.2)).trans H.out.2.2.2.2.2⟩
  obtain ⟨h, hs, hb0, hz, e1, e2⟩ := H.out
  rw [hz] at hM
  have s1 := b1.size
  have HM := hide (And.intro (hM.below (Below.refl _ w1).drew) (show mo = none → mc = 0 by obtain ⟨g, rfl, _⟩ := hM.mark; simp))
  have HX : Hid (Under (fun k => k = w.heap.size ∨ Value.ownBlock (.slice mo l.length mc) = some k) w1.drew.heap.size) := hide (by
    obtain ⟨g, rfl, _, hg, hg2⟩ := hM.mark
    rintro k (rfl | q)
    · show w.heap.size < w1.heap.size; omega
    · simp [Value.ownBlock] at q; subst q; exact hg2)
  have T0 := hide ((((h.aside (Y := fun k => k = w.heap.size ∨ Value.ownBlock (.slice mo l.length mc) = some k) (by
    obtain ⟨g, rfl, _, hg, hg2⟩ := hM.mark
    rintro k (rfl | q)
    · exact Nat.le_refl _
    · simp [Value.ownBlock] at q; omega)).below hb0).below b1).below (Below.refl _ w1).drew)
  have HW := hide (((hb0.mono hs).trans (b1.mono (by omega))).trans (Below.refl B w1).drew)
  clear h hs hb0 hz e1 e2 hM b1 s1 hlent
  refine wp_region_held_drew (S := (fun w' => w'.cell? ⟨w.heap.size, 1, none⟩ = some (.int .i64 n) ∧ w'.cell? ⟨w.heap.size, 2, none⟩ = some (.slice so l.length sc))) (by kernel_rfl) (by exact hS0) (fun hHeld => ?_)
  try dsimp only at hHeld
  refine take_op (i := 0) (d := 23) (OP := Op.move (Operand.tmp 0)) (T := 28) (v := ?vq1x) rfl rfl rfl rfl (by kernel_rfl) (by kernel_rfl) (by kernel_rfl) (fun _ _ _ h => h) (by rfl) ?hq1x hHeld ?rq1x
  case hq1x => (intro w' hSw; (try dsimp only at hSw); go_simp <;> with_reducible rfl)
  try simp only [Act.put, List.setIfInBounds_toArray, List.set_cons_zero, List.set_cons_succ]
  refine take_op (i := 1) (d := 24) (OP := Op.fieldAddr 40 (Operand.tmp 5) 1) (T := 0) (v := ?vq2x) rfl rfl rfl rfl (by kernel_rfl) (by kernel_rfl) (by kernel_rfl) (fun _ _ _ h => h) (by rfl) ?hq2x hHeld ?rq2x
  case hq2x => (intro w' hSw; (try dsimp only at hSw); go_simp <;> with_reducible rfl)
  try simp only [Act.put, List.setIfInBounds_toArray, List.set_cons_zero, List.set_cons_succ]
  refine take_op (i := 2) (d := 25) (OP := Op.load 3 (Operand.tmp 24)) (T := 3) (v := ?vq3x) rfl rfl rfl rfl (by kernel_rfl) (by kernel_rfl) (by kernel_rfl) (fun _ _ _ h => h) (by rfl) ?hq3x hHeld ?rq3x
  case hq3x => (intro w' hSw; (try dsimp only at hSw); go_simp <;> with_reducible rfl)
  try simp only [Act.put, List.setIfInBounds_toArray, List.set_cons_zero, List.set_cons_succ]
  refine take_op (i := 3) (d := 26) (OP := Op.move (Operand.tmp 9)) (T := 22) (v := ?vq4x) rfl rfl rfl rfl (by kernel_rfl) (by kernel_rfl) (by kernel_rfl) (fun _ _ _ h => h) (by rfl) ?hq4x hHeld ?rq4x
  case hq4x => (intro w' hSw; (try dsimp only at hSw); go_simp <;> with_reducible rfl)
  try simp only [Act.put, List.setIfInBounds_toArray, List.set_cons_zero, List.set_cons_succ]
  refine take_op (i := 5) (d := 28) (OP := Op.move (Operand.tmp 1)) (T := 32) (v := ?vq5x) rfl rfl rfl rfl (by kernel_rfl) (by kernel_rfl) (by kernel_rfl) (fun _ _ _ h => h) (by rfl) ?hq5x hHeld ?rq5x
  case hq5x => (intro w' hSw; (try dsimp only at hSw); go_simp <;> with_reducible rfl)
  try simp only [Act.put, List.setIfInBounds_toArray, List.set_cons_zero, List.set_cons_succ]
  refine take_op (i := 6) (d := 29) (OP := Op.fieldAddr 40 (Operand.tmp 5) 1) (T := 0) (v := ?vq6x) rfl rfl rfl rfl (by kernel_rfl) (by kernel_rfl) (by kernel_rfl) (fun _ _ _ h => h) (by rfl) ?hq6x hHeld ?rq6x
  case hq6x => (intro w' hSw; (try dsimp only at hSw); go_simp <;> with_reducible rfl)
  try simp only [Act.put, List.setIfInBounds_toArray, List.set_cons_zero, List.set_cons_succ]
  refine take_op (i := 7) (d := 30) (OP := Op.load 3 (Operand.tmp 29)) (T := 3) (v := ?vq7x) rfl rfl rfl rfl (by kernel_rfl) (by kernel_rfl) (by kernel_rfl) (fun _ _ _ h => h) (by rfl) ?hq7x hHeld ?rq7x
  case hq7x => (intro w' hSw; (try dsimp only at hSw); go_simp <;> with_reducible rfl)
  try simp only [Act.put, List.setIfInBounds_toArray, List.set_cons_zero, List.set_cons_succ]
  refine take_op (i := 8) (d := 31) (OP := Op.fieldAddr 40 (Operand.tmp 5) 2) (T := 0) (v := ?vq8x) rfl rfl rfl rfl (by kernel_rfl) (by kernel_rfl) (by kernel_rfl) (fun _ _ _ h => h) (by rfl) ?hq8x hHeld ?rq8x
  case hq8x => (intro w' hSw; (try dsimp only at hSw); go_simp <;> with_reducible rfl)
  try simp only [Act.put, List.setIfInBounds_toArray, List.set_cons_zero, List.set_cons_succ]
  refine take_op (i := 9) (d := 32) (OP := Op.load 22 (Operand.tmp 31)) (T := 22) (v := ?vq9x) rfl rfl rfl rfl (by kernel_rfl) (by kernel_rfl) (by kernel_rfl) (fun _ _ _ h => h) (by rfl) ?hq9x hHeld ?rq9x
  case hq9x => (intro w' hSw; (try dsimp only at hSw); go_simp <;> with_reducible rfl)
  try simp only [Act.put, List.setIfInBounds_toArray, List.set_cons_zero, List.set_cons_succ]
  refine call_op (i := 4) (d := 27) (OP := Op.call { callee := Callee.value (Operand.func 13), args := #[Operand.tmp 23, Operand.tmp 25, Operand.tmp 26], argTypes := #[28, 3, 22] }) (T := 29) (f := 13) (args := #[.pointer (some ⟨D, 0, none⟩), .int .i64 n, .slice mo l.length mc]) rfl rfl rfl rfl (by kernel_rfl) (by rfl) (by go_simp) ?_
  refine ((T0.out.lay HX.out n mo mc l HM.out.1.own.rd HM.out.2 hu (by omega) hlog)).mono ?_
  rintro e w2 ⟨rfl, t2, on2⟩
  have hS2 : w2.cell? ⟨w.heap.size, 1, none⟩ = some (.int .i64 n) ∧ w2.cell? ⟨w.heap.size, 2, none⟩ = some (.slice so l.length sc) := ⟨on2.cell hHeld.1 (fun q => q.2 (.inl rfl)), on2.cell hHeld.2 (fun q => q.2 (.inl rfl))⟩
  have hX2 : Under (fun k => k = w.heap.size ∨ Value.ownBlock (.slice mo l.length mc) = some k) w2.heap.size := fun k q => Nat.lt_of_lt_of_le (HX.out k q) on2.size
  have hb2 : Below B w w2 := HW.out.trans (on2.belowB (fun _ q => q.1) T0.out.size)
  have T2 := hide (And.intro t2 (And.intro on2 (And.intro hX2 hb2)))
  clear t2 on2 hX2 hb2
  refine ⟨_, rfl, hS2, ?_⟩
  replace hHeld := hS2
  try simp only [Act.put, List.setIfInBounds_toArray, List.set_cons_zero, List.set_cons_succ]
  refine call_op (i := 10) (d := 33) (OP := Op.call { callee := Callee.value (Operand.func 32), args := #[Operand.tmp 28, Operand.tmp 30, Operand.tmp 32], argTypes := #[32, 3, 22] }) (T := 3) (f := 32) (args := #[.pointer (some ⟨R, 0, none⟩), .int .i64 n, .slice so l.length sc]) rfl rfl rfl rfl (by kernel_rfl) (by rfl) (by go_simp) ?_
  refine ((T2.out.1.rlay T2.out.2.2.1 n so sc l (hr w2 T2.out.2.2.2) hsn hu (by omega) hlog)).mono ?_
  rintro e w3 ⟨rfl, t3, on3⟩
  have hS3 : w3.cell? ⟨w.heap.size, 1, none⟩ = some (.int .i64 n) ∧ w3.cell? ⟨w.heap.size, 2, none⟩ = some (.slice so l.length sc) := ⟨on3.cell hHeld.1 (fun q => q.2 (.inl rfl)), on3.cell hHeld.2 (fun q => q.2 (.inl rfl))⟩
  have hb3 : Below B w w3 := T2.out.2.2.2.trans (on3.belowB (fun _ q => q.1) T2.out.1.size)
  have hM3 : Lent w3 (w.heap.size + 1) mo mc l := (HM.out.1.only T2.out.2.1 (fun j q z => z.2 (.inr q))).only on3 (fun j q z => z.2 (.inr q))
  have T3 := hide (And.intro t3 (And.intro hM3 hb3))
  clear t3 on3 hM3 hb3
  refine ⟨_, rfl, hS3, ?_⟩
  replace hHeld := hS3
  try simp only [Act.put, List.setIfInBounds_toArray, List.set_cons_zero, List.set_cons_succ]
  refine take_op (i := 11) (d := 34) (OP := Op.binOp BinOp.eql 3 (Operand.tmp 27) (Operand.tmp 33) 3) (T := 4) (v := ?vq12x) rfl rfl rfl rfl (by kernel_rfl) (by kernel_rfl) (by kernel_rfl) (fun _ _ _ h => h) (by rfl) ?hq12x hHeld ?rq12x
  case hq12x => (intro w' hSw; (try dsimp only at hSw); go_simp <;> with_reducible rfl)
  try simp only [Act.put, List.setIfInBounds_toArray, List.set_cons_zero, List.set_cons_succ]
  refine take_op (i := 12) (d := 10) (OP := Op.assign (Operand.tmp 34)) (T := 4) (v := ?vq13x) rfl rfl rfl rfl (by kernel_rfl) (by kernel_rfl) (by kernel_rfl) (fun _ _ _ h => h) (by rfl) ?hq13x hHeld ?rq13x
  case hq13x => (intro w' hSw; (try dsimp only at hSw); go_simp <;> with_reducible rfl)
  try simp only [Act.put, List.setIfInBounds_toArray, List.set_cons_zero, List.set_cons_succ]
  refine wpAnyH_done (by kernel_rfl) ?_ _
  go_wp2_with (go_at_call 10; refine (left_any mo so mc sc _ l w3 T3.out.2.1 (hr w3 T3.out.2.2) hl).mono ?_; rintro e w4 ⟨rfl, on4⟩)
  go_ret3
  obtain ⟨t3, hM3, hb3⟩ := T3.out
  have hgB : ∀ k, Value.ownBlock (.slice mo l.length mc) = some k → B ≤ k := by
    have := H.out.2.1
    obtain ⟨g, rfl, _, hg, hg2⟩ := hM3.mark
    intro k q
    simp [Value.ownBlock] at q; omega
  refine ⟨D, R, layL cap (plays beg log) n l log, by simp, (t3.only (on4.mono (fun k _ q => .inr q))).free, ?_, hb3.trans (on4.belowB hgB t3.size)⟩
  unfold layL
  split <;> simp

/-- Any step. -/
theorem does_any (h : Twin B X w D R cap beg log log) (k n : Int) (so : Option Addr) (sc : Nat) (l : List Int) (hr : ∀ w', Below B w w' → Rd w' so l) (hsn : so = none → sc = 0) (hu : U8 l) (hl : l.length ≤ 140737488351232) (hlog : log.length < 1000000) :
    Calls Try.prog 12 #[.pointer (some ⟨D, 0, none⟩), .pointer (some ⟨R, 0, none⟩), .agg #[.int .i64 k, .int .i64 n, .slice so l.length sc]] w (Did B w cap beg log) := by
  by_cases h1 : k = 1
  · subst h1; exact does_lay h n so sc l hr hsn hu hl hlog
  by_cases h2 : k = 2
  · subst h2; exact does_clear h n so _ sc hlog
  by_cases h3 : k = 3
  · subst h3; exact does_turn h n so _ sc hlog
  by_cases h4 : k = 4
  · subst h4
    by_cases hn : n < 0 ∨ (log.length : Int) < n
    · exact does_cut_no h n so _ sc hn
    · obtain ⟨j, rfl⟩ : ∃ j : Nat, n = j := ⟨n.toNat, by omega⟩
      exact does_cut_yes h j so _ sc (by omega) hlog
  by_cases h5 : k = 5
  · subst h5; exact does_copy h n so _ sc hlog
  exact does_other h k n so _ sc h1 h2 h3 h4 h5
end
end Go.Proofs.Ytfaceimamipbpaa
