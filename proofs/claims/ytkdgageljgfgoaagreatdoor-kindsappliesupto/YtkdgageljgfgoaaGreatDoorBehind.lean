/-
  Cells that stay.
  kinds: behind 55.
-/
import Derived.Test.YtkdgageljgfgoaaGreatDoorCmp9
namespace Go.Proofs.YtkdgageljgfgoaaGreatDoor
open Go.RowKit Go.Shelf
theorem cell_stays {w w' : World} {a : Addr} {x : Value} (h : w.cell? a = some x) (hb : Below w.heap.size w w') : w'.cell? a = some x := by
  rw [hb.cell (World.block_lt_of_cell? w a h)]; exact h
theorem drew_below (W : World) : Below W.heap.size W W.drew := ⟨rfl, rfl, rfl, Nat.le_refl _, fun _ _ => rfl⟩
theorem below_drw {B : Nat} {w w' : World} (h : Below B w w') (n : Nat) : Below B w (w'.drewN n) := ⟨h.os, h.tape, h.output, h.size, h.block⟩
theorem set_one {w : World} {B i : Nat} {cs : Array Value} {ty : TypeId} (v : Value) (h : w.heap[B]? = some (.cells cs ty (0, 0))) : (w.setCell ⟨B, i, none⟩ v).heap[B]? = some (.cells (cs.setIfInBounds i v) ty (0, 0)) ∧ Only (fun j => j = B) w (w.setCell ⟨B, i, none⟩ v) := by
  refine ⟨?_, (Only.ofGrown (grown_setCell w ⟨B, i, none⟩ _)).mono (fun j _ e => by simpa using e.symm)⟩
  rw [heap_setCell_same _ _ _ _ ty _ h]
theorem Only.next {D : Nat → Prop} {a b c : World} (h : Only D a b) (k : Only D b c) : Only D a c := h.trans k (fun _ _ d => d)
theorem below_only {D : Nat → Prop} {W W' : World} (h : Below W.heap.size W W') : Only D W W' := (Only.ofBelow h).mono (fun _ _ d => d.elim)
theorem keepC6 {w w' : World} {a0 a1 a2 a3 a4 a5 : Addr} {v0 v1 v2 v3 v4 v5 : Value} (h : w.cell? a0 = some v0 ∧ w.cell? a1 = some v1 ∧ w.cell? a2 = some v2 ∧ w.cell? a3 = some v3 ∧ w.cell? a4 = some v4 ∧ w.cell? a5 = some v5) (hb : Below w.heap.size w w') : w'.cell? a0 = some v0 ∧ w'.cell? a1 = some v1 ∧ w'.cell? a2 = some v2 ∧ w'.cell? a3 = some v3 ∧ w'.cell? a4 = some v4 ∧ w'.cell? a5 = some v5 := ⟨cell_stays h.1 hb, cell_stays h.2.1 hb, cell_stays h.2.2.1 hb, cell_stays h.2.2.2.1 hb, cell_stays h.2.2.2.2.1 hb, cell_stays h.2.2.2.2.2 hb⟩
theorem keepC11 {w w' : World} {a0 a1 a2 a3 a4 a5 a6 a7 a8 a9 a10 : Addr} {v0 v1 v2 v3 v4 v5 v6 v7 v8 v9 v10 : Value} (h : w.cell? a0 = some v0 ∧ w.cell? a1 = some v1 ∧ w.cell? a2 = some v2 ∧ w.cell? a3 = some v3 ∧ w.cell? a4 = some v4 ∧ w.cell? a5 = some v5 ∧ w.cell? a6 = some v6 ∧ w.cell? a7 = some v7 ∧ w.cell? a8 = some v8 ∧ w.cell? a9 = some v9 ∧ w.cell? a10 = some v10) (hb : Below w.heap.size w w') : w'.cell? a0 = some v0 ∧ w'.cell? a1 = some v1 ∧ w'.cell? a2 = some v2 ∧ w'.cell? a3 = some v3 ∧ w'.cell? a4 = some v4 ∧ w'.cell? a5 = some v5 ∧ w'.cell? a6 = some v6 ∧ w'.cell? a7 = some v7 ∧ w'.cell? a8 = some v8 ∧ w'.cell? a9 = some v9 ∧ w'.cell? a10 = some v10 := ⟨cell_stays h.1 hb, cell_stays h.2.1 hb, cell_stays h.2.2.1 hb, cell_stays h.2.2.2.1 hb, cell_stays h.2.2.2.2.1 hb, cell_stays h.2.2.2.2.2.1 hb, cell_stays h.2.2.2.2.2.2.1 hb, cell_stays h.2.2.2.2.2.2.2.1 hb, cell_stays h.2.2.2.2.2.2.2.2.1 hb, cell_stays h.2.2.2.2.2.2.2.2.2.1 hb, cell_stays h.2.2.2.2.2.2.2.2.2.2 hb⟩
theorem keepB6 {w0 w w' : World} {a0 a1 a2 a3 a4 a5 : Addr} {v0 v1 v2 v3 v4 v5 : Value} (h : w.cell? a0 = some v0 ∧ w.cell? a1 = some v1 ∧ w.cell? a2 = some v2 ∧ w.cell? a3 = some v3 ∧ w.cell? a4 = some v4 ∧ w.cell? a5 = some v5 ∧ Below w0.heap.size w0 w) (hb : Below w.heap.size w w') : w'.cell? a0 = some v0 ∧ w'.cell? a1 = some v1 ∧ w'.cell? a2 = some v2 ∧ w'.cell? a3 = some v3 ∧ w'.cell? a4 = some v4 ∧ w'.cell? a5 = some v5 ∧ Below w0.heap.size w0 w' := ⟨cell_stays h.1 hb, cell_stays h.2.1 hb, cell_stays h.2.2.1 hb, cell_stays h.2.2.2.1 hb, cell_stays h.2.2.2.2.1 hb, cell_stays h.2.2.2.2.2.1 hb, h.2.2.2.2.2.2.trans (hb.mono h.2.2.2.2.2.2.size)⟩
end Go.Proofs.YtkdgageljgfgoaaGreatDoor
namespace Go.Proofs.YtkdgageljgfgoaaGreatDoor
open Go.RowKit Go.Shelf
set_option linter.unusedSimpArgs false
attribute [local go_sem] Oper.semAt_some

/-- Is a stamp behind all of rising elements? -/
def behindB (s : St) (l : List El) : Bool := match l.getLast? with
  | none => true
  | some x => decide (cmpT x.1 s < 0)

set_option maxHeartbeats 2000000 in
set_option maxRecDepth 100000 in
theorem behind_any {w : World} (s : St) {ao : Option Addr} {c : Nat} {l : List El} (h : Re w ao l) (hl : l.length ≤ 1000000) : Calls Tryz.prog 55 #[svT s, .slice ao l.length c] w fun e w' => e = .returned (.bool (behindB s l)) ∧ Below w.heap.size w w' := by
  obtain ⟨N, hN⟩ : ∃ N, N = l.length := ⟨_, rfl⟩
  by_cases h0 : N = 0
  · have : l = [] := List.eq_nil_of_length_eq_zero (hN.symm.trans h0)
    subst this
    obtain ⟨g, r, l0, n0, i0⟩ := s
    show Calls Tryz.prog 55 #[svT _, .slice ao 0 c] w _
    unfold behindB
    dsimp only [List.getLast?_nil]
    clear hN h0 h hl
    have b1 : Below w.heap.size w (w.alloc (.cells #[.int .i64 g, .int .i64 r, .string l0, .int .i64 n0, .int .i64 i0] 52)) := (Below.refl _ w).alloc (Nat.le_refl _) _
    have HB := hide b1
    clear b1
    go_enter Tryz.func55, Tryz.ntmps55
    go_wp2
    go_quiet (fail)
    go_wp2
    go_ret
    exact ⟨rfl, below_drw HB.out _⟩
  · obtain ⟨k, hk⟩ : ∃ k, N = k + 1 := ⟨N - 1, by omega⟩
    obtain ⟨x, hx⟩ : ∃ x, l[k]? = some x := ⟨_, List.getElem?_eq_getElem (by omega)⟩
    have hB : behindB s l = decide (cmpT x.1 s < 0) := by
      have : l.getLast? = some x := by rw [List.getLast?_eq_getElem?, ← hN, hk]; simpa using hx
      unfold behindB; rw [this]
    obtain ⟨R, hR⟩ : ∃ R, R = behindB s l := ⟨_, rfl⟩
    rw [← hR, ← hN]
    have hcs := fun W => cmpStamp_grow x s W
    obtain ⟨cv, hcv⟩ : ∃ cv, cv = cmpT x.1 s := ⟨_, rfl⟩
    rw [← hcv] at hB
    simp only [← hcv] at hcs
    obtain ⟨g, r, l0, n0, i0⟩ := s
    obtain ⟨w1, hw1⟩ : ∃ w1, w1 = w.alloc (.cells #[.int .i64 g, .int .i64 r, .string l0, .int .i64 n0, .int .i64 i0] 52) := ⟨_, rfl⟩
    have m0 := heap_alloc_new w (.cells #[.int .i64 g, .int .i64 r, .string l0, .int .i64 n0, .int .i64 i0] 52)
    have b1 : Below w.heap.size w w1 := by rw [hw1]; exact (Below.refl _ w).alloc (Nat.le_refl _) _
    rw [← hw1] at m0
    obtain ⟨p0, p1, p2, p3, p4, _⟩ := blk5 m0
    have hre := h.below b1
    obtain ⟨b, off, rfl, q0, q1, q2, q3, q4, q5⟩ := hre.cells hx
    obtain ⟨⟨g', r', l', n', i'⟩, t'⟩ := x
    dsimp only at q0 q1 q2 q3 q4 q5 hcs hB
    obtain ⟨B, hBB⟩ : ∃ B, B = w.heap.size := ⟨_, rfl⟩
    rw [← hBB] at p0 p1 p2 p3 p4
    have hS : w1.cell? ⟨B, 0, none⟩ = some (.int .i64 g) ∧ w1.cell? ⟨B, 1, none⟩ = some (.int .i64 r) ∧ w1.cell? ⟨B, 2, none⟩ = some (.string l0) ∧ w1.cell? ⟨B, 3, none⟩ = some (.int .i64 n0) ∧ w1.cell? ⟨B, 4, none⟩ = some (.int .i64 i0) ∧ w1.cell? ⟨b, off + k * 6, none⟩ = some (.int .i64 g') ∧ w1.cell? ⟨b, off + k * 6 + 1, none⟩ = some (.int .i64 r') ∧ w1.cell? ⟨b, off + k * 6 + 2, none⟩ = some (.string l') ∧ w1.cell? ⟨b, off + k * 6 + 3, none⟩ = some (.int .i64 n') ∧ w1.cell? ⟨b, off + k * 6 + 4, none⟩ = some (.int .i64 i') ∧ w1.cell? ⟨b, off + k * 6 + 5, none⟩ = some (.string t') := ⟨p0, p1, p2, p3, p4, q0, q1, q2, q3, q4, q5⟩
    have hk0 : ((N : Int) == 0) = false := by rw [beq_eq_false_iff_ne]; omega
    have wk : wrap64 ((N : Int) - 1) = (k : Int) := by unfold wrap64; omega
    have wk' : IntKind.i64.wrap ((N : Int) - 1) = (k : Int) := by rw [IntKind.wrap_i64, ← wrap64, wk]
    have hlt : (k : Int) < (N : Int) := by omega
    have hlt' : k < N := by omega
    have HW := hide (And.intro hw1 (And.intro b1 (And.intro hBB (And.intro hR hB))))
    clear p0 p1 p2 p3 p4 q0 q1 q2 q3 q4 q5 m0 b1 hre h hx hR hB hN h0 hl hcv hw1 hBB hk
    go_enter Tryz.func55, Tryz.ntmps55
    go_wp2
    rw [← HW.out.1]
    have eB := HW.out.2.2.1
    simp only [← eB]
    clear eB
    go_region_held3 (fun W => W.cell? ⟨B, 0, none⟩ = some (.int .i64 g) ∧ W.cell? ⟨B, 1, none⟩ = some (.int .i64 r) ∧ W.cell? ⟨B, 2, none⟩ = some (.string l0) ∧ W.cell? ⟨B, 3, none⟩ = some (.int .i64 n0) ∧ W.cell? ⟨B, 4, none⟩ = some (.int .i64 i0) ∧ W.cell? ⟨b, off + k * 6, none⟩ = some (.int .i64 g') ∧ W.cell? ⟨b, off + k * 6 + 1, none⟩ = some (.int .i64 r') ∧ W.cell? ⟨b, off + k * 6 + 2, none⟩ = some (.string l') ∧ W.cell? ⟨b, off + k * 6 + 3, none⟩ = some (.int .i64 n') ∧ W.cell? ⟨b, off + k * 6 + 4, none⟩ = some (.int .i64 i') ∧ W.cell? ⟨b, off + k * 6 + 5, none⟩ = some (.string t')) (first | exact hS | exact keepC11 hS (drew_below _) | exact keepC11 (by assumption) (by assumption))
      (first | (go_at_call 78; refine (hcs _).mono ?_; rintro e w2 ⟨rfl, b2⟩; have b2' := b2.low))
    have HE := hide (HW.out.2.1.trans ((show Below w1.heap.size w1 w2 from (drew_below w1).trans b2').mono HW.out.2.1.size))
    go_wp2
    go_ret
    exact ⟨by rw [HW.out.2.2.2.1, HW.out.2.2.2.2]; rfl, HE.out⟩
end Go.Proofs.YtkdgageljgfgoaaGreatDoor
