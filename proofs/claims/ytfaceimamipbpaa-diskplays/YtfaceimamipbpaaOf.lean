/-
  WALKS over how the program's disks are made: apart, fresh, Of, New.
-/
import Derived.Test.YtfaceimamipbpaaOps2
import Derived.LoopN
namespace Go.Proofs.Ytfaceimamipbpaa
open Go.RowKit
set_option linter.unusedSimpArgs false

/-- Both areas as a value. -/
def arv (x0 : Option Addr) (n0 c0 : Nat) (x1 : Option Addr) (n1 c1 : Nat) (u : Int) : Value := .agg #[.slice x0 n0 c0, .slice x1 n1 c1, .int .i64 u]

/-- What apart answers: two new slices, apart from each other. -/
def Apt (w w' : World) (u : Int) (l0 l1 : List Int) (e : Ending) : Prop :=
  ∃ y0 d0 y1 d1, e = .returned (arv y0 l0.length d0 y1 l1.length d1 u) ∧ Own 5 w' w.heap.size (.slice y0 l0.length d0) l0 ∧ Own 5 w' w.heap.size (.slice y1 l1.length d1) l1 ∧
    (∀ k, Value.ownBlock (.slice y1 l1.length d1) = some k → Value.ownBlock (.slice y0 l0.length d0) ≠ some k) ∧ Below w.heap.size w w'

theorem idx0 (w : World) (x0 x1 : Option Addr) (n0 c0 n1 c1 : Nat) : (Instr.index 55 (.agg #[.slice x0 n0 c0, .slice x1 n1 c1]) (.int .i64 0)).run Try.prog w = .ok (.slice x0 n0 c0) w := by kernel_rfl
theorem idx1 (w : World) (x0 x1 : Option Addr) (n0 c0 n1 c1 : Nat) : (Instr.index 55 (.agg #[.slice x0 n0 c0, .slice x1 n1 c1]) (.int .i64 1)).run Try.prog w = .ok (.slice x1 n1 c1) w := by kernel_rfl

set_option maxHeartbeats 1000000 in
set_option maxRecDepth 100000 in
theorem apart_any (x0 x1 : Option Addr) (c0 c1 : Nat) (l0 l1 : List Int) (u : Int) (w : World) (r0 : Rd w x0 l0) (r1 : Rd w x1 l1) (n0 : x0 = none → c0 = 0) (n1 : x1 = none → c1 = 0) (h0 : l0.length ≤ 1048576) (h1 : l1.length ≤ 1048576) :
    Calls Try.prog 41 #[arv x0 l0.length c0 x1 l1.length c1 u] w fun e w' => Apt w w' u l0 l1 e := by
  obtain ⟨q1, q2⟩ := new2 w (.cells #[.slice x0 l0.length c0, .slice x1 l1.length c1, .int .i64 u] 57) (.cells #[.slice none 0 0, .slice none 0 0, .int .i64 0] 57)
  have hb2 : Below w.heap.size w ((w.alloc (.cells #[.slice x0 l0.length c0, .slice x1 l1.length c1, .int .i64 u] 57)).alloc (.cells #[.slice none 0 0, .slice none 0 0, .int .i64 0] 57)) := ((Below.refl _ w).alloc (Nat.le_refl _) _).alloc (by simp) _
  unfold arv
  go_enter Try.func41, Try.ntmps41
  go_wp2
  go_loopw [7] (fun i wr => Below w.heap.size w wr ∧ w.heap.size + 2 ≤ wr.heap.size ∧ wr.heap[w.heap.size + 1]? = some (.cells #[.slice none 0 0, .slice none 0 0, .int .i64 0] 57 (0, 0)) ∧
      ((i = .int .i64 0 ∧ wr.heap[w.heap.size]? = some (.cells #[.slice x0 l0.length c0, .slice x1 l1.length c1, .int .i64 u] 57 (0, 0))) ∨
       (i = .int .i64 1 ∧ ∃ y0 d0, wr.heap[w.heap.size]? = some (.cells #[.slice y0 l0.length d0, .slice x1 l1.length c1, .int .i64 u] 57 (0, 0)) ∧ Own 5 wr (w.heap.size + 2) (.slice y0 l0.length d0) l0) ∨
       (i = .int .i64 2 ∧ ∃ y0 d0 y1 d1, wr.heap[w.heap.size]? = some (.cells #[.slice y0 l0.length d0, .slice y1 l1.length d1, .int .i64 u] 57 (0, 0)) ∧ Own 5 wr (w.heap.size + 2) (.slice y0 l0.length d0) l0 ∧ Own 5 wr (w.heap.size + 2) (.slice y1 l1.length d1) l1 ∧ (∀ k, Value.ownBlock (.slice y1 l1.length d1) = some k → Value.ownBlock (.slice y0 l0.length d0) ≠ some k)))) (fun i _ => 2 - (intOf i).toNat)
  case atStart => exact ⟨hb2, by simp, q2, .inl ⟨rfl, q1⟩⟩
  case round =>
    obtain ⟨hb, hs, hz, ⟨rfl, hc⟩ | ⟨rfl, y0, d0, hc, ho0⟩ | ⟨rfl, y0, d0, y1, d1, hc, ho0, ho1, hne⟩⟩ := hrel
    · obtain ⟨k0, k1, k2, f0, f1, f2⟩ := blk3 hc
      have hix := idx0 wr x0 x1 l0.length c0 l1.length c1
      have HC := hide hc
      clear hc
      go_wp2_with (go_at_call 26; refine (clone_any x0 c0 l0 _ (r0.below hb) n0 (by omega)).mono ?_; rintro e w1 ⟨ao1, e1, rfl, ho1, hn1, hb1⟩; have hc1 := hide ((hb1.block _ (by omega)).trans HC.out); obtain ⟨g0, g1, g2, g3, g4, g5⟩ := blk3 hc1.out)
      go_roundw
      case rel =>
        have hset := Only.ofGrown (grown_setCell w1 ⟨w.heap.size, 0, none⟩ (.slice ao1 l0.length e1))
        have hs1 := hb1.size
        refine ⟨Below.only (hb.trans (hb1.mono (by omega))) hset (by omega) (by intro j hj; cases hj; exact Nat.le_refl _), by simp; omega, ?_, .inr (.inl ⟨by go_num, ao1, e1, ?_, ?_⟩)⟩
        · rw [heap_setCell_other _ _ _ _ (by simp), hb1.block _ (by omega)]; exact hz
        · rw [heap_setCell_same _ _ _ _ 57 _ hc1.out]; simp
        · exact (hset.own ho1 (fun j hj e => by have := (World.ownsRow.lt ho1 j hj).1; cases e; simp only at this; omega)).lift hs
      case measure => simp [intOf]
    · obtain ⟨k0, k1, k2, f0, f1, f2⟩ := blk3 hc
      have hix := idx1 wr x0 x1 l0.length c0 l1.length c1
      have HC := hide hc
      clear hc
      go_wp2_with (go_at_call 26; refine (clone_any x1 c1 l1 _ (r1.below hb) n1 (by omega)).mono ?_; rintro e w1 ⟨ao1, e1, rfl, ho1, hn1, hb1⟩; have hc1 := hide ((hb1.block _ (by omega)).trans HC.out); obtain ⟨g0, g1, g2, g3, g4, g5⟩ := blk3 hc1.out)
      go_roundw
      case rel =>
        have hset := Only.ofGrown (grown_setCell w1 ⟨w.heap.size, 1, none⟩ (.slice ao1 l1.length e1))
        have hs1 := hb1.size
        refine ⟨Below.only (hb.trans (hb1.mono (by omega))) hset (by omega) (by intro j hj; cases hj; exact Nat.le_refl _), by simp; omega, ?_, .inr (.inr ⟨by go_num, y0, d0, ao1, e1, ?_, ?_, ?_, ?_⟩)⟩
        · rw [heap_setCell_other _ _ _ _ (by simp), hb1.block _ (by omega)]; exact hz
        · rw [heap_setCell_same _ _ _ _ 57 _ hc1.out]; simp
        · exact (hset.own (ho0.below hb1) (fun j hj e => by have := (World.ownsRow.lt ho0 j hj).1; cases e; simp only at this; omega))
        · exact (hset.own ho1 (fun j hj e => by have := (World.ownsRow.lt ho1 j hj).1; cases e; simp only at this; omega)).lift hs
        · intro j hj e
          have a1 := (World.ownsRow.lt ho1 j hj).1
          have a2 := (World.ownsRow.lt ho0 j e).2
          omega
      case measure => simp [intOf]
    · obtain ⟨k0, k1, k2, f0, f1, f2⟩ := blk3 hc
      obtain ⟨g0, g1, g2, g3, g4, g5⟩ := blk3 hz
      have HC := hide hc
      have HZ := hide hz
      clear hc hz
      go_wp2
      have r2 := (((Only.refl (fun k => k = w.heap.size + 1) wr).setCell ⟨w.heap.size + 1, 0, none⟩ (.slice y0 l0.length d0) (fun _ => rfl)).setCell ⟨w.heap.size + 1, 1, none⟩ (.slice y1 l1.length d1) (fun _ => rfl)).setCell ⟨w.heap.size + 1, 2, none⟩ (.int .i64 u) (fun _ => rfl)
      refine ret_row (w.heap.size + 1) [.slice y0 l0.length d0, .slice y1 l1.length d1, .int .i64 u] rfl rfl Try.underlying57 rfl (by kernel_rfl) (t := 57) (fr := (0, 0)) ?_ rfl ?_
      · rw [heap_setCell_same _ _ _ _ 57 _ (heap_setCell_same _ _ _ _ 57 _ (heap_setCell_same _ _ _ _ 57 _ HZ.out))]
        simp
      · refine ⟨y0, d0, y1, d1, rfl, ?_, ?_, hne, Below.only hb r2 (by omega) (by intro j hj; omega)⟩
        · exact (r2.own ho0 (fun j hj e => by have := (World.ownsRow.lt ho0 j hj).1; omega)).lift (by omega)
        · exact (r2.own ho1 (fun j hj e => by have := (World.ownsRow.lt ho1 j hj).1; omega)).lift (by omega)

set_option maxHeartbeats 1000000 in
set_option maxRecDepth 100000 in
/-- A disk that stands at its beginning. -/
theorem fresh_any {G : Nat → Prop} (cap : Int) (x0 x1 : Option Addr) (c0 c1 : Nat) (l0 l1 : List Int) (u : Int) (w : World) (r0 : RdG w G x0 c0 l0) (r1 : RdG w G x1 c1 l1) (hG : Under G w.heap.size) (hf : Fit cap ⟨l0, l1, u⟩) (hp : 0 < cap) (hm : cap ≤ 1048576) :
    Calls Try.prog 27 #[.int .i64 cap, arv x0 l0.length c0 x1 l1.length c1 u] w fun e w' => ∃ R F', e = .returned (.pointer (some ⟨R, 0, none⟩)) ∧ PD F' G w' R cap ⟨l0, l1, u⟩ [] ∧ (∀ k, F' k → w.heap.size ≤ k) ∧ Below w.heap.size w w' := by
  have hl0 : l0.length ≤ 1048576 := by have : (l0.length : Int) ≤ cap := hf.l0; omega
  have hl1 : l1.length ≤ 1048576 := by have : (l1.length : Int) ≤ cap := hf.l1; omega
  have hb0 : Below w.heap.size w ((w.alloc (.cells #[.slice x0 l0.length c0, .slice x1 l1.length c1, .int .i64 u] 57)).drew) := ((Below.refl _ w).alloc (Nat.le_refl _) _).drew
  have hS0 : ((w.alloc (.cells #[.slice x0 l0.length c0, .slice x1 l1.length c1, .int .i64 u] 57)).drew).cell? ⟨w.heap.size, 0, none⟩ = some (.slice x0 l0.length c0) ∧ ((w.alloc (.cells #[.slice x0 l0.length c0, .slice x1 l1.length c1, .int .i64 u] 57)).drew).cell? ⟨w.heap.size, 1, none⟩ = some (.slice x1 l1.length c1) ∧ ((w.alloc (.cells #[.slice x0 l0.length c0, .slice x1 l1.length c1, .int .i64 u] 57)).drew).cell? ⟨w.heap.size, 2, none⟩ = some (.int .i64 u) := by
    obtain ⟨q0, q1, q2, _⟩ := blk3 (w := (w.alloc (.cells #[.slice x0 l0.length c0, .slice x1 l1.length c1, .int .i64 u] 57)).drew) (R := w.heap.size) (heap_alloc_new w _)
    exact ⟨q0, q1, q2⟩
  have HF := hide hf
  clear hf
  unfold arv
  go_enter Try.func27, Try.ntmps27
  go_wp2
  refine wp_region_held_drew (S := (fun w' => w'.cell? ⟨w.heap.size, 0, none⟩ = some (.slice x0 l0.length c0) ∧ w'.cell? ⟨w.heap.size, 1, none⟩ = some (.slice x1 l1.length c1) ∧ w'.cell? ⟨w.heap.size, 2, none⟩ = some (.int .i64 u))) (by kernel_rfl) (by exact hS0) (fun hHeld => ?_)
  try dsimp only at hHeld
  refine take_op (i := 0) (d := 5) (OP := Op.move (Operand.tmp 0)) (T := 3) (v := ?vq1x) rfl rfl rfl rfl (by kernel_rfl) (by kernel_rfl) (by kernel_rfl) (fun _ _ _ h => h) (by rfl) ?hq1x hHeld ?rq1x
  case hq1x => (intro w' hSw; (try dsimp only at hSw); go_simp <;> with_reducible rfl)
  try simp only [Act.put, List.setIfInBounds_toArray, List.set_cons_zero, List.set_cons_succ]
  refine take_op (i := 1) (d := 6) (OP := Op.load 57 (Operand.tmp 3)) (T := 57) (v := ?vq2x) rfl rfl rfl rfl (by kernel_rfl) (by kernel_rfl) (by kernel_rfl) (fun _ _ _ h => h) (by rfl) ?hq2x hHeld ?rq2x
  case hq2x => (intro w' hSw; (try dsimp only at hSw); go_simp <;> with_reducible rfl)
  try simp only [Act.put, List.setIfInBounds_toArray, List.set_cons_zero, List.set_cons_succ]
  refine take_op (i := 2) (d := 7) (OP := Op.load 57 (Operand.tmp 3)) (T := 57) (v := ?vq3x) rfl rfl rfl rfl (by kernel_rfl) (by kernel_rfl) (by kernel_rfl) (fun _ _ _ h => h) (by rfl) ?hq3x hHeld ?rq3x
  case hq3x => (intro w' hSw; (try dsimp only at hSw); go_simp <;> with_reducible rfl)
  try simp only [Act.put, List.setIfInBounds_toArray, List.set_cons_zero, List.set_cons_succ]
  refine call_op (i := 3) (d := 8) (OP := Op.call { callee := Callee.value (Operand.func 41), args := #[Operand.tmp 7], argTypes := #[57] }) (T := 57) (f := 41) (args := #[.agg #[.slice x0 l0.length c0, .slice x1 l1.length c1, .int .i64 u]]) rfl rfl rfl rfl (by kernel_rfl) (by rfl) (by go_simp) ?_
  refine (apart_any x0 x1 c0 c1 l0 l1 u _ (r0.rd.below hb0) (r1.rd.below hb0) r0.nil r1.nil hl0 hl1).mono ?_
  rintro e w1 ⟨y0, d0, y1, d1, rfl, ho0, ho1, hne, hb1⟩
  have hS1 : w1.cell? ⟨w.heap.size, 0, none⟩ = some (.slice x0 l0.length c0) ∧ w1.cell? ⟨w.heap.size, 1, none⟩ = some (.slice x1 l1.length c1) ∧ w1.cell? ⟨w.heap.size, 2, none⟩ = some (.int .i64 u) := ⟨(hb1.cell (by simp)).trans hS0.1, (hb1.cell (by simp)).trans hS0.2.1, (hb1.cell (by simp)).trans hS0.2.2⟩
  have hbA : Below w1.heap.size w1 (w1.alloc (.cells #[.int .i64 cap, .slice x0 l0.length c0, .slice x1 l1.length c1, .int .i64 u, .slice y0 l0.length d0, .slice y1 l1.length d1, .int .i64 u, .slice none 0 0] 60)) := (Below.refl _ w1).alloc (Nat.le_refl _) _
  have hs1 : w.heap.size + 1 ≤ w1.heap.size := by have := hb1.size; simpa using this
  have hS2 : (w1.alloc (.cells #[.int .i64 cap, .slice x0 l0.length c0, .slice x1 l1.length c1, .int .i64 u, .slice y0 l0.length d0, .slice y1 l1.length d1, .int .i64 u, .slice none 0 0] 60)).cell? ⟨w.heap.size, 0, none⟩ = some (.slice x0 l0.length c0) ∧ (w1.alloc (.cells #[.int .i64 cap, .slice x0 l0.length c0, .slice x1 l1.length c1, .int .i64 u, .slice y0 l0.length d0, .slice y1 l1.length d1, .int .i64 u, .slice none 0 0] 60)).cell? ⟨w.heap.size, 1, none⟩ = some (.slice x1 l1.length c1) ∧ (w1.alloc (.cells #[.int .i64 cap, .slice x0 l0.length c0, .slice x1 l1.length c1, .int .i64 u, .slice y0 l0.length d0, .slice y1 l1.length d1, .int .i64 u, .slice none 0 0] 60)).cell? ⟨w.heap.size, 2, none⟩ = some (.int .i64 u) := ⟨(hbA.cell (by simp; omega)).trans hS1.1, (hbA.cell (by simp; omega)).trans hS1.2.1, (hbA.cell (by simp; omega)).trans hS1.2.2⟩
  unfold arv
  refine ⟨_, rfl, hS1, ?_⟩
  replace hHeld := hS1
  try simp only [Act.put, List.setIfInBounds_toArray, List.set_cons_zero, List.set_cons_succ]
  refine take_op (i := 4) (d := 9) (OP := Op.build 60 #[(0, Operand.tmp 5), (1, Operand.tmp 6), (2, Operand.tmp 8)]) (T := 60) (v := ?vq5x) rfl rfl rfl rfl (by kernel_rfl) (by kernel_rfl) (by kernel_rfl) (fun _ _ _ h => h) (by rfl) ?hq5x hHeld ?rq5x
  case hq5x => (intro w' hSw; (try dsimp only at hSw); go_simp <;> with_reducible rfl)
  try simp only [Act.put, List.setIfInBounds_toArray, List.set_cons_zero, List.set_cons_succ]
  refine turn_op (i := 5) (d := 10) (OP := Op.box 60 (Operand.tmp 9)) (T := 28) (v := (.pointer (some ⟨w1.heap.size, 0, none⟩))) (w' := (w1.alloc (.cells #[.int .i64 cap, .slice x0 l0.length c0, .slice x1 l1.length c1, .int .i64 u, .slice y0 l0.length d0, .slice y1 l1.length d1, .int .i64 u, .slice none 0 0] 60))) rfl rfl rfl rfl (by kernel_rfl) (by rfl) (by go_simp) hS2 ?_
  replace hHeld := hS2
  try simp only [Act.put, List.setIfInBounds_toArray, List.set_cons_zero, List.set_cons_succ]
  refine take_op (i := 6) (d := 4) (OP := Op.assign (Operand.tmp 10)) (T := 28) (v := ?vq7x) rfl rfl rfl rfl (by kernel_rfl) (by kernel_rfl) (by kernel_rfl) (fun _ _ _ h => h) (by rfl) ?hq7x hHeld ?rq7x
  case hq7x => (intro w' hSw; (try dsimp only at hSw); go_simp <;> with_reducible rfl)
  try simp only [Act.put, List.setIfInBounds_toArray, List.set_cons_zero, List.set_cons_succ]
  refine wpAnyH_done (by kernel_rfl) ?_ _
  go_wp2
  go_ret
  have hbw : Below w.heap.size w w1 := hb0.trans (hb1.mono (by simp))
  have hbW : Below w.heap.size w (w1.alloc (.cells #[.int .i64 cap, .slice x0 l0.length c0, .slice x1 l1.length c1, .int .i64 u, .slice y0 l0.length d0, .slice y1 l1.length d1, .int .i64 u, .slice none 0 0] 60)) := hbw.trans (hbA.mono hbw.size)
  have hon := (Only.ofBelow hbW)
  have b0 : ∀ k, Value.ownBlock (.slice y0 l0.length d0) = some k → w.heap.size + 1 ≤ k ∧ k < w1.heap.size := fun k hk => by have := World.ownsRow.lt ho0 k hk; simpa using this
  have b1 : ∀ k, Value.ownBlock (.slice y1 l1.length d1) = some k → w.heap.size + 1 ≤ k ∧ k < w1.heap.size := fun k hk => by have := World.ownsRow.lt ho1 k hk; simpa using this
  have hnone : Apart None G := fun _ d => d.elim
  have hFn : ∀ k, Mut w1.heap.size (.slice y0 l0.length d0) (.slice y1 l1.length d1) (.slice none 0 0) k → w.heap.size ≤ k ∧ k < (w1.alloc (.cells #[.int .i64 cap, .slice x0 l0.length c0, .slice x1 l1.length c1, .int .i64 u, .slice y0 l0.length d0, .slice y1 l1.length d1, .int .i64 u, .slice none 0 0] 60)).heap.size := by
    rintro k (rfl | hk | hk | hk)
    · exact ⟨by omega, by simp⟩
    · have := b0 k hk; simp; omega
    · have := b1 k hk; simp; omega
    · simp [Value.ownBlock] at hk
  refine ⟨w1.heap.size, Mut w1.heap.size (.slice y0 l0.length d0) (.slice y1 l1.length d1) (.slice none 0 0), rfl, ⟨⟨x0, c0, x1, c1, .slice y0 l0.length d0, .slice y1 l1.length d1, .slice none 0 0, [], ?_⟩, Fits.nil HF.out, hp, hm⟩, fun k hk => (hFn k hk).1, hbW⟩
  exact { cells := heap_alloc_new w1 _, r0 := r0.only hon hnone, r1 := r1.only hon hnone, o0 := (ho0.lift (Nat.zero_le _)).alloc _, o1 := (ho1.lift (Nat.zero_le _)).alloc _, ol := World.ownsRow_nil _ _ _ _, it := rfl, fR := .inl rfl, f0 := fun k hk => ⟨.inr (.inl hk), by have := b0 k hk; omega⟩, f1 := fun k hk => ⟨.inr (.inr (.inl hk)), by have := b1 k hk; omega, hne k hk⟩, fl := fun k hk => by simp [Value.ownBlock] at hk, apart := fun k hk hg => by have := (hFn k hk).1; have := hG k hg; omega, uF := fun k hk => (hFn k hk).2, uG := fun k hk => Nat.lt_of_lt_of_le (hG k hk) hbW.size }

def ofE (cap u : Int) (l0 l1 : List Int) : Int := if cap < 1 ∨ 1048576 < cap ∨ ¬ (u = 0 ∨ u = 1) then 2 else if cap < (l0.length : Nat) ∨ cap < (l1.length : Nat) then 8 else 0

set_option maxHeartbeats 1000000 in
set_option maxRecDepth 100000 in
/-- Of, refused. -/
theorem of_no (cap u : Int) (x0 x1 : Option Addr) (c0 c1 : Nat) (l0 l1 : List Int) (w : World) (he : ofE cap u l0 l1 ≠ 0) :
    Calls Try.prog 8 #[.int .i64 cap, .int .i64 u, .slice x0 l0.length c0, .slice x1 l1.length c1] w fun e w' => e = .returned (.tuple #[.pointer none, .int .i64 (ofE cap u l0 l1)]) ∧ w = w' := by
  by_cases h1 : cap < 1
  · have HE : Hid (ofE cap u l0 l1 = 2) := by show ofE _ _ _ _ = _; unfold ofE; rw [if_pos (.inl h1)]
    have hd : decide (cap < 1) = true := by simpa using h1
    clear he
    go_enter Try.func8, Try.ntmps8
    go_wp2
    go_ret2
    rw [HE.out]
    exact ⟨rfl, rfl⟩
  · have hd : decide (cap < 1) = false := by simpa using h1
    by_cases h2 : 1048576 < cap
    · have HE : Hid (ofE cap u l0 l1 = 2) := by show ofE _ _ _ _ = _; unfold ofE; rw [if_pos (.inr (.inl h2))]
      have hd2 : decide (1048576 < cap) = true := by simpa using h2
      clear he
      go_enter Try.func8, Try.ntmps8
      go_wp2
      go_ret2
      rw [HE.out]
      exact ⟨rfl, rfl⟩
    · have hd2 : decide (1048576 < cap) = false := by simpa using h2
      by_cases h3 : u = 0 ∨ u = 1
      · have HA := hide h3
        have HQ : Hid (ofE cap u l0 l1 = 8 ∧ (cap < (l0.length : Nat) ∨ cap < (l1.length : Nat))) := by
          show _ ∧ _
          have hn : ¬ (cap < 1 ∨ 1048576 < cap ∨ ¬ (u = 0 ∨ u = 1)) := by
            rintro (q | q | q)
            · exact h1 q
            · exact h2 q
            · exact q h3
          unfold ofE at he ⊢
          rw [if_neg hn] at he ⊢
          by_cases h4 : cap < (l0.length : Nat) ∨ cap < (l1.length : Nat)
          · rw [if_pos h4]; exact ⟨rfl, h4⟩
          · rw [if_neg h4] at he; exact absurd rfl he
        clear he h3
        by_cases h4 : cap < (l0.length : Nat)
        · have hd4 : decide (cap < (l0.length : Nat)) = true := by simpa using h4
          go_enter Try.func8, Try.ntmps8
          go_wp2_with (go_at_call 25; refine (isArea_yes u _ HA.out).mono ?_; rintro e w1 ⟨rfl, rfl⟩)
          go_ret2
          rw [HQ.out.1]
          exact ⟨rfl, rfl⟩
        · have hd4 : decide (cap < (l0.length : Nat)) = false := by simpa using h4
          have hd5 : decide (cap < (l1.length : Nat)) = true := by
            rcases HQ.out.2 with q | q
            · exact absurd q h4
            · simpa using q
          go_enter Try.func8, Try.ntmps8
          go_wp2_with (go_at_call 25; refine (isArea_yes u _ HA.out).mono ?_; rintro e w1 ⟨rfl, rfl⟩)
          go_ret2
          rw [HQ.out.1]
          exact ⟨rfl, rfl⟩
      · have HA := hide h3
        have HE : Hid (ofE cap u l0 l1 = 2) := by show ofE _ _ _ _ = _; unfold ofE; rw [if_pos (.inr (.inr h3))]
        clear he h3
        go_enter Try.func8, Try.ntmps8
        go_wp2_with (go_at_call 25; refine (isArea_no u _ HA.out).mono ?_; rintro e w1 ⟨rfl, rfl⟩)
        go_ret2
        rw [HE.out]
        exact ⟨rfl, rfl⟩

theorem ofE_zero {cap u : Int} {l0 l1 : List Int} (h : ofE cap u l0 l1 = 0) : 0 < cap ∧ cap ≤ 1048576 ∧ (u = 0 ∨ u = 1) ∧ (l0.length : Int) ≤ cap ∧ (l1.length : Int) ≤ cap := by
  unfold ofE at h
  split at h
  · simp at h
  · split at h
    · simp at h
    · rename_i h1 h2
      by_cases hu : u = 0 ∨ u = 1
      · exact ⟨by omega, by omega, hu, by omega, by omega⟩
      · exact absurd (.inr (.inr hu)) h1

theorem of_under {w w1 w2 : World} {y0 y1 : Option Addr} {n0 n1 d0 d1 : Nat} {l0 l1 : List Int} (h0 : Own 5 w1 w.heap.size (.slice y0 n0 d0) l0) (h1 : Own 5 w2 w1.heap.size (.slice y1 n1 d1) l1) (hs : w1.heap.size ≤ w2.heap.size) (o : Obj) :
    Under (fun k => (∃ a, y0 = some a ∧ a.block = k) ∨ ∃ a, y1 = some a ∧ a.block = k) (w2.alloc o).heap.size := by
  rintro k (⟨a, ha, rfl⟩ | ⟨a, ha, rfl⟩)
  · have := (h0.blk a ha).2; simp; omega
  · have := (h1.blk a ha).2; simp; omega

set_option maxHeartbeats 1000000 in
set_option maxRecDepth 100000 in
/-- Of, a new disk. -/
theorem of_yes (cap u : Int) (x0 x1 : Option Addr) (c0 c1 : Nat) (l0 l1 : List Int) (w : World) (he : ofE cap u l0 l1 = 0) (r0 : Rd w x0 l0) (r1 : Rd w x1 l1) (n0 : x0 = none → c0 = 0) (n1 : x1 = none → c1 = 0) (u0 : U8 l0) (u1 : U8 l1) :
    Calls Try.prog 8 #[.int .i64 cap, .int .i64 u, .slice x0 l0.length c0, .slice x1 l1.length c1] w fun e w' => ∃ R F G, e = .returned (.tuple #[.pointer (some ⟨R, 0, none⟩), .int .i64 0]) ∧ PD F G w' R cap ⟨l0, l1, u⟩ [] ∧ (∀ k, F k → w.heap.size ≤ k) ∧ (∀ k, G k → w.heap.size ≤ k) ∧ Below w.heap.size w w' := by
  obtain ⟨hp, hm, hu, hl0, hl1⟩ := ofE_zero he
  have hd : decide (cap < 1) = false := by simp; omega
  have hd2 : decide (1048576 < cap) = false := by simpa using hm
  have hd4 : decide (cap < (l0.length : Nat)) = false := by simpa using hl0
  have hd5 : decide (cap < (l1.length : Nat)) = false := by simpa using hl1
  have hf : Fit cap ⟨l0, l1, u⟩ := ⟨hl0, hl1, u0, u1, hu⟩
  have HA := hide hu
  have HF := hide hf
  clear he hu hf
  go_enter Try.func8, Try.ntmps8
  go_wp2_with (first | (go_at_call 25; refine (isArea_yes u _ HA.out).mono ?_; rintro e w1 ⟨rfl, rfl⟩) | (go_at_call 26; first | (refine (clone_any x0 c0 l0 w r0 n0 (by omega)).mono ?_; rintro e w1 ⟨y0, d0, rfl, ho0, hn0, hb1⟩) | (refine (clone_any x1 c1 l1 w1 (r1.below hb1) n1 (by omega)).mono ?_; rintro e w2 ⟨y1, d1, rfl, ho1, hn1, hb2⟩)) | (go_at_call 27; refine (fresh_any (G := fun k => (∃ a, y0 = some a ∧ a.block = k) ∨ ∃ a, y1 = some a ∧ a.block = k) cap y0 y1 d0 d1 l0 l1 u _ ⟨(ho0.rd.below hb2).alloc _, hn0, fun a ha => .inl ⟨a, ha, rfl⟩⟩ ⟨ho1.rd.alloc _, hn1, fun a ha => .inr ⟨a, ha, rfl⟩⟩ (of_under ho0 ho1 hb2.size _) HF.out hp hm).mono ?_; rintro e w3 ⟨R, F, rfl, hP, hF, hb3⟩))
  go_ret2
  have hs2 := hb2.size
  have hs1 := hb1.size
  refine ⟨R, F, _, rfl, hP, fun k hk => by have := hF k hk; simp at this; omega, ?_, ?_⟩
  · rintro k (⟨a, ha, rfl⟩ | ⟨a, ha, rfl⟩)
    · exact (ho0.blk a ha).1
    · have := (ho1.blk a ha).1; omega
  · exact ((hb1.trans (hb2.mono hs1)).alloc (by omega) _).trans (hb3.mono (by simp; omega))

set_option maxHeartbeats 1000000 in
set_option maxRecDepth 100000 in
/-- New, a new disk. -/
theorem new_yes (cap : Int) (w : World) (hp : 0 < cap) (hm : cap ≤ 1048576) :
    Calls Try.prog 21 #[.int .i64 cap] w fun e w' => ∃ R F G, e = .returned (.tuple #[.pointer (some ⟨R, 0, none⟩), .int .i64 0]) ∧ PD F G w' R cap ⟨[], [], 0⟩ [] ∧ (∀ k, F k → w.heap.size ≤ k) ∧ (∀ k, G k → w.heap.size ≤ k) ∧ Below w.heap.size w w' := by
  have he : ofE cap 0 [] [] = 0 := by
    unfold ofE
    rw [if_neg (by simp; omega), if_neg (by simp; omega)]
  have hc := of_yes cap 0 none none 0 0 [] [] w he (Rd.nil _ _) (Rd.nil _ _) (by simp) (by simp) U8.nil U8.nil
  clear he
  go_enter Try.func21, Try.ntmps21
  go_wp2_with (go_at_call 8; refine hc.mono ?_; rintro e w1 ⟨R, F, G, rfl, h1, h2, h3, h4⟩)
  go_ret2
  exact ⟨R, F, G, rfl, h1, h2, h3, h4⟩
end Go.Proofs.Ytfaceimamipbpaa
