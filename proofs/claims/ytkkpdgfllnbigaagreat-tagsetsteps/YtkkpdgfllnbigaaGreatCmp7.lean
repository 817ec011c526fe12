/-
  CMP7: stamps held against each other, with what is laid and drawn on the way: old blocks stand, draws only go on.
-/
import Derived.Test.YtkkpdgfllnbigaaGreatMg7
import Derived.Deep.DeepCutAuto
import Derived.Deep.CutBlock
import Derived.Scope
import Derived.Sort.Grow
namespace Go.Proofs.YtkkpdgfllnbigaaGreat
open Go.RowKit Go.Shelf
set_option linter.unusedSimpArgs false

/-- Below, and draws only go on. -/
structure BelowG (B : Nat) (w w' : World) : Prop where
  low : Below B w w'
  drawn : w.drawn ≤ w'.drawn
theorem BelowG.refl (B : Nat) (w : World) : BelowG B w w := ⟨Below.refl B w, Nat.le_refl _⟩
theorem BelowG.size {B : Nat} {w w' : World} (h : BelowG B w w') : w.heap.size ≤ w'.heap.size := h.low.size
theorem BelowG.block {B : Nat} {w w' : World} (h : BelowG B w w') : ∀ k, k < B → w'.heap[k]? = w.heap[k]? := h.low.block
theorem BelowG.trans {B : Nat} {a b c : World} (h : BelowG B a b) (k : BelowG B b c) : BelowG B a c := ⟨h.low.trans k.low, Nat.le_trans h.drawn k.drawn⟩
theorem BelowG.mono {B B' : Nat} {w w' : World} (h : BelowG B w w') (hB : B' ≤ B) : BelowG B' w w' := ⟨h.low.mono hB, h.drawn⟩
theorem BelowG.alloc {B : Nat} {w w' : World} (h : BelowG B w w') (hB : B ≤ w'.heap.size) (o : Obj) : BelowG B w (w'.alloc o) := ⟨h.low.alloc hB o, h.drawn⟩
theorem BelowG.drew {B : Nat} {w w' : World} (h : BelowG B w w') : BelowG B w w'.drew := ⟨h.low.drew, Nat.le_succ_of_le h.drawn⟩
theorem BelowG.drewN {B : Nat} {w w' : World} (h : BelowG B w w') (n : Nat) : BelowG B w (w'.drewN n) := ⟨⟨h.low.os, h.low.tape, h.low.output, h.low.size, h.low.block⟩, Nat.le_trans h.drawn (Nat.le_add_right _ _)⟩
theorem belowG_new (w : World) (o : Obj) : BelowG w.heap.size w (w.alloc o) := ⟨below_new w o, Nat.le_refl _⟩
theorem BelowG.grows {w w' : World} (h : BelowG w.heap.size w w') : ∃ q os', w' = Go.Sort.grow (w.drewN q) os' := by
  refine ⟨w'.drawn - w.drawn, w'.heap.extract w.heap.size w'.heap.size, ?_⟩
  obtain ⟨⟨h1, h2, h3, h4, h5⟩, h6⟩ := h
  have hh : w'.heap = w.heap ++ w'.heap.extract w.heap.size w'.heap.size := by
    apply Array.ext_getElem?
    intro i
    by_cases hi : i < w.heap.size
    · rw [Array.getElem?_append_left hi]; exact h5 i hi
    · rw [Array.getElem?_append_right (by omega), Array.getElem?_extract]
      split
      · rw [show w.heap.size + (i - w.heap.size) = i by omega]
      · rw [Array.getElem?_eq_none]; omega
  cases w'; cases w
  simp only [Go.Sort.grow, World.drewN] at *
  subst h1 h2 h3
  rw [World.mk.injEq]
  exact ⟨hh, rfl, by omega, rfl, rfl⟩

set_option maxHeartbeats 4000000 in
set_option maxRecDepth 100000 in
theorem cmpS_grow (g r : Int) (l : ByteArray) (n x g' r' : Int) (l' : ByteArray) (n' x' : Int) (w : World) : Calls Tryz.prog 127 #[sv g r l n x, sv g' r' l' n' x'] w fun e w' => e = .returned (.int .i64 (cmpS g r l n x g' r' l' n' x')) ∧ BelowG w.heap.size w w' := by
  have hb : BelowG w.heap.size w ((w.alloc (.cells #[.int .i64 g, .int .i64 r, .string l, .int .i64 n, .int .i64 x] 43)).alloc (.cells #[.int .i64 g', .int .i64 r', .string l', .int .i64 n', .int .i64 x'] 43)) := (belowG_new w _).alloc (by simp) _
  obtain ⟨hk1, hk2⟩ := new2 w (.cells #[.int .i64 g, .int .i64 r, .string l, .int .i64 n, .int .i64 x] 43) (.cells #[.int .i64 g', .int .i64 r', .string l', .int .i64 n', .int .i64 x'] 43)
  have h100 := fun W => cmp_any l l' W
  obtain ⟨cb, hcb⟩ : ∃ cb, cb = cmpB l l' := ⟨_, rfl⟩
  rw [← hcb] at h100
  obtain ⟨R, hR⟩ : ∃ R, cmpPairs [(g, g'), (r, r'), (cb, 0), (n, n'), (x, x')] = R := ⟨_, rfl⟩
  have hgoal : cmpS g r l n x g' r' l' n' x' = R := by unfold cmpS prs; rw [← hcb]; exact hR
  rw [hgoal]
  have HR := hide hR
  clear hgoal hR hcb
  go_enter Tryz.func127, Tryz.ntmps127
  go_upto_region 1 with fail
  refine wp_scope_straight ?_
  go_upto_region 1 with fail
  obtain ⟨c0, c1, c2, c3, c4, _, _, _, _, _⟩ := blk5 hk1
  obtain ⟨d0, d1, d2, d3, d4, _, _, _, _, _⟩ := blk5 hk2
  generalize ((w.alloc (.cells #[.int .i64 g, .int .i64 r, .string l, .int .i64 n, .int .i64 x] 43)).alloc (.cells #[.int .i64 g', .int .i64 r', .string l', .int .i64 n', .int .i64 x'] 43)) = w1 at hb hk1 hk2 c0 c1 c2 c3 c4 d0 d1 d2 d3 d4 ⊢
  have HB1 := hide (And.intro hb (And.intro hk1 hk2))
  clear hb hk1 hk2
  have hA1 : ∀ (p : Addr) (v : Value) (o1 : Obj), w1.cell? p = some v → (w1.alloc o1).cell? p = some v := fun p v o1 hp => (Below.cell ((Below.refl _ w1).alloc (Nat.le_refl _) o1) (World.block_lt_of_cell? _ _ hp)).trans hp
  have hA2 : ∀ (p : Addr) (v : Value) (o1 o2 : Obj), w1.cell? p = some v → ((w1.alloc o1).alloc o2).cell? p = some v := fun p v o1 o2 hp => (Below.cell (((Below.refl _ w1).alloc (Nat.le_refl _) o1).alloc (by simp) o2) (World.block_lt_of_cell? _ _ hp)).trans hp
  have e11 := fun o1 => hA1 _ _ o1 c1
  have e21 := fun o1 o2 => hA2 _ _ o1 o2 c1
  have e12 := fun o1 => hA1 _ _ o1 c2
  have e22 := fun o1 o2 => hA2 _ _ o1 o2 c2
  have e13 := fun o1 => hA1 _ _ o1 c3
  have e23 := fun o1 o2 => hA2 _ _ o1 o2 c3
  have f11 := fun o1 => hA1 _ _ o1 d1
  have f21 := fun o1 o2 => hA2 _ _ o1 o2 d1
  have f12 := fun o1 => hA1 _ _ o1 d2
  have f22 := fun o1 o2 => hA2 _ _ o1 o2 d2
  have f13 := fun o1 => hA1 _ _ o1 d3
  have f23 := fun o1 o2 => hA2 _ _ o1 o2 d3
  clear hA1 hA2
  go_cut [5, 6] (fun v5 v6 wc => ∃ A B : Nat, v5 = .pointer (some ⟨A, 0, none⟩) ∧ v6 = .pointer (some ⟨B, 0, none⟩) ∧ Hid (wc.heap[w.heap.size]? = some (.cells #[.int .i64 g, .int .i64 r, .string l, .int .i64 n, .int .i64 x] 43) ∧ wc.heap[w.heap.size + 1]? = some (.cells #[.int .i64 g', .int .i64 r', .string l', .int .i64 n', .int .i64 x'] 43) ∧ wc.heap[A]? = some (.cells #[.int .i64 r, .string l, .int .i64 n] 41) ∧ wc.heap[B]? = some (.cells #[.int .i64 r', .string l', .int .i64 n'] 41) ∧ BelowG w.heap.size w wc))
  case first =>
    as_aux_lemma =>
      have hn2 : ∀ o1 o2 : Obj, (((w1.alloc o1).alloc o2).drew.heap[w1.heap.size]? = some o1 ∧ ((w1.alloc o1).alloc o2).drew.heap[w1.heap.size + 1]? = some o2) ∧ (((w1.alloc o1).alloc o2).drew.heap[w.heap.size]? = some (.cells #[.int .i64 g, .int .i64 r, .string l, .int .i64 n, .int .i64 x] 43) ∧ ((w1.alloc o1).alloc o2).drew.heap[w.heap.size + 1]? = some (.cells #[.int .i64 g', .int .i64 r', .string l', .int .i64 n', .int .i64 x'] 43)) ∧ BelowG w.heap.size w ((w1.alloc o1).alloc o2).drew := fun o1 o2 => by
        obtain ⟨q1, q2⟩ := new2 w1 o1 o2
        have hs := HB1.out.1.size
        have b2 : BelowG w1.heap.size w1 ((w1.alloc o1).alloc o2) := ((BelowG.refl _ w1).alloc (Nat.le_refl _) o1).alloc (by simp) o2
        have hz1 := (gI HB1.out.2.1).1
        have hz2 := (gI HB1.out.2.2).1
        exact ⟨⟨q1, q2⟩, ⟨(b2.block _ hz1).trans HB1.out.2.1, (b2.block _ hz2).trans HB1.out.2.2⟩, (HB1.out.1.trans (b2.mono hs)).drew⟩
      have HN2 := hide hn2
      clear hn2
      go_region
      all_goals go_wp2
      all_goals go_meet
      all_goals exact ⟨_, _, rfl, rfl, hide ⟨(HN2.out _ _).2.1.1, (HN2.out _ _).2.1.2, by first | exact (HN2.out _ _).1.1 | exact (HN2.out _ _).1.2, by first | exact (HN2.out _ _).1.1 | exact (HN2.out _ _).1.2, (HN2.out _ _).2.2⟩⟩
  case rest =>
  clear e11 e21 e12 e22 e13 e23 f11 f21 f12 f22 f13 f23 c0 c1 c2 c3 c4 d0 d1 d2 d3 d4 HB1
  obtain ⟨A, B, rfl, rfl, HW⟩ := hcut
  have hS : wc.drew.cell? ⟨w.heap.size, 0, none⟩ = some (.int .i64 g) ∧ wc.drew.cell? ⟨w.heap.size, 1, none⟩ = some (.int .i64 r) ∧ wc.drew.cell? ⟨w.heap.size, 2, none⟩ = some (.string l) ∧ wc.drew.cell? ⟨w.heap.size, 3, none⟩ = some (.int .i64 n) ∧ wc.drew.cell? ⟨w.heap.size, 4, none⟩ = some (.int .i64 x) ∧ wc.drew.cell? ⟨w.heap.size + 1, 0, none⟩ = some (.int .i64 g') ∧ wc.drew.cell? ⟨w.heap.size + 1, 1, none⟩ = some (.int .i64 r') ∧ wc.drew.cell? ⟨w.heap.size + 1, 2, none⟩ = some (.string l') ∧ wc.drew.cell? ⟨w.heap.size + 1, 3, none⟩ = some (.int .i64 n') ∧ wc.drew.cell? ⟨w.heap.size + 1, 4, none⟩ = some (.int .i64 x') ∧ wc.drew.cell? ⟨A, 0, none⟩ = some (.int .i64 r) ∧ wc.drew.cell? ⟨A, 1, none⟩ = some (.string l) ∧ wc.drew.cell? ⟨A, 2, none⟩ = some (.int .i64 n) ∧ wc.drew.cell? ⟨B, 0, none⟩ = some (.int .i64 r') ∧ wc.drew.cell? ⟨B, 1, none⟩ = some (.string l') ∧ wc.drew.cell? ⟨B, 2, none⟩ = some (.int .i64 n') := by
    obtain ⟨h1, h2, h3, h4, _⟩ := HW.out
    obtain ⟨a0, a1, a2, a3, a4, _, _, _, _, _⟩ := blk5 h1
    obtain ⟨b0, b1, b2, b3, b4, _, _, _, _, _⟩ := blk5 h2
    obtain ⟨m0, m1, m2, _, _, _⟩ := blk3 h3
    obtain ⟨n0, n1, n2, _, _, _⟩ := blk3 h4
    exact ⟨a0, a1, a2, a3, a4, b0, b1, b2, b3, b4, m0, m1, m2, n0, n1, n2⟩
  have hD : BelowG w.heap.size w wc.drew := HW.out.2.2.2.2.drew
  clear HW
  go_upto_region 2 with fail
  go_cut [7] (fun v7 wd => ∃ Pn, v7 = .pointer (some ⟨Pn, 0, none⟩) ∧ Hid (wd.heap[Pn]? = some (.cells #[.int .i64 g, .int .i64 g', .int .i64 r, .int .i64 r', .int .i64 cb, .int .i64 0, .int .i64 n, .int .i64 n', .int .i64 x, .int .i64 x'] 176 (0, 0)) ∧ BelowG w.heap.size w wd))
  case first =>
    as_aux_lemma =>
      refine wp_region_held_drew (S := (fun w' => w'.cell? ⟨w.heap.size, 0, none⟩ = some (.int .i64 g) ∧ w'.cell? ⟨w.heap.size, 1, none⟩ = some (.int .i64 r) ∧ w'.cell? ⟨w.heap.size, 2, none⟩ = some (.string l) ∧ w'.cell? ⟨w.heap.size, 3, none⟩ = some (.int .i64 n) ∧ w'.cell? ⟨w.heap.size, 4, none⟩ = some (.int .i64 x) ∧ w'.cell? ⟨w.heap.size + 1, 0, none⟩ = some (.int .i64 g') ∧ w'.cell? ⟨w.heap.size + 1, 1, none⟩ = some (.int .i64 r') ∧ w'.cell? ⟨w.heap.size + 1, 2, none⟩ = some (.string l') ∧ w'.cell? ⟨w.heap.size + 1, 3, none⟩ = some (.int .i64 n') ∧ w'.cell? ⟨w.heap.size + 1, 4, none⟩ = some (.int .i64 x') ∧ w'.cell? ⟨A, 0, none⟩ = some (.int .i64 r) ∧ w'.cell? ⟨A, 1, none⟩ = some (.string l) ∧ w'.cell? ⟨A, 2, none⟩ = some (.int .i64 n) ∧ w'.cell? ⟨B, 0, none⟩ = some (.int .i64 r') ∧ w'.cell? ⟨B, 1, none⟩ = some (.string l') ∧ w'.cell? ⟨B, 2, none⟩ = some (.int .i64 n'))) (by kernel_rfl) (by exact hS) (fun hHeld => ?_)
      try dsimp only at hHeld
      generalize wc.drew = W1 at hHeld hD ⊢
      clear hS
      refine take_op (i := 0) (d := 15) (OP := Op.fieldAddr 43 (Operand.tmp 2) 0) (T := 0) (v := .pointer (some ⟨w.heap.size, 0, none⟩)) rfl rfl rfl rfl (by kernel_rfl) (by kernel_rfl) (by kernel_rfl) (fun _ _ _ h => h) (by rfl) (fun w' _ => exec_fa27_0 rfl) hHeld ?_
      try simp only [Act.put, sI, sZ, sS]
      refine take_op (i := 1) (d := 16) (OP := Op.load 2 (Operand.tmp 15)) (T := 2) (v := .int .i64 g) rfl rfl rfl rfl (by kernel_rfl) (by kernel_rfl) (by kernel_rfl) (fun _ _ _ h => h) (by rfl) (fun w' hSw => exec_load2 rfl hSw.1) hHeld ?_
      try simp only [Act.put, sI, sZ, sS]
      refine take_op (i := 2) (d := 17) (OP := Op.fieldAddr 43 (Operand.tmp 3) 0) (T := 0) (v := .pointer (some ⟨w.heap.size + 1, 0, none⟩)) rfl rfl rfl rfl (by kernel_rfl) (by kernel_rfl) (by kernel_rfl) (fun _ _ _ h => h) (by rfl) (fun w' _ => exec_fa27_0 rfl) hHeld ?_
      try simp only [Act.put, sI, sZ, sS]
      refine take_op (i := 3) (d := 18) (OP := Op.load 2 (Operand.tmp 17)) (T := 2) (v := .int .i64 g') rfl rfl rfl rfl (by kernel_rfl) (by kernel_rfl) (by kernel_rfl) (fun _ _ _ h => h) (by rfl) (fun w' hSw => exec_load2 rfl hSw.2.2.2.2.2.1) hHeld ?_
      try simp only [Act.put, sI, sZ, sS]
      refine take_op (i := 4) (d := 19) (OP := Op.build 175 #[(0, Operand.tmp 16), (1, Operand.tmp 18)]) (T := 175) (v := .agg #[.int .i64 g, .int .i64 g']) rfl rfl rfl rfl (by kernel_rfl) (by kernel_rfl) (by kernel_rfl) (fun _ _ _ h => h) (by rfl) (fun w' _ => exec_build126 rfl rfl) hHeld ?_
      try simp only [Act.put, sI, sZ, sS]
      refine take_op (i := 5) (d := 20) (OP := Op.fieldAddr 41 (Operand.tmp 5) 0) (T := 0) (v := .pointer (some ⟨A, 0, none⟩)) rfl rfl rfl rfl (by kernel_rfl) (by kernel_rfl) (by kernel_rfl) (fun _ _ _ h => h) (by rfl) (fun w' _ => exec_fa25_0 rfl) hHeld ?_
      try simp only [Act.put, sI, sZ, sS]
      refine take_op (i := 6) (d := 21) (OP := Op.fieldAddr 39 (Operand.tmp 20) 0) (T := 0) (v := .pointer (some ⟨A, 0, none⟩)) rfl rfl rfl rfl (by kernel_rfl) (by kernel_rfl) (by kernel_rfl) (fun _ _ _ h => h) (by rfl) (fun w' _ => exec_fa23_0 rfl) hHeld ?_
      try simp only [Act.put, sI, sZ, sS]
      refine take_op (i := 7) (d := 22) (OP := Op.load 3 (Operand.tmp 21)) (T := 3) (v := .int .i64 r) rfl rfl rfl rfl (by kernel_rfl) (by kernel_rfl) (by kernel_rfl) (fun _ _ _ h => h) (by rfl) (fun w' hSw => exec_load3 rfl hSw.2.2.2.2.2.2.2.2.2.2.1) hHeld ?_
      try simp only [Act.put, sI, sZ, sS]
      refine take_op (i := 8) (d := 23) (OP := Op.fieldAddr 41 (Operand.tmp 6) 0) (T := 0) (v := .pointer (some ⟨B, 0, none⟩)) rfl rfl rfl rfl (by kernel_rfl) (by kernel_rfl) (by kernel_rfl) (fun _ _ _ h => h) (by rfl) (fun w' _ => exec_fa25_0 rfl) hHeld ?_
      try simp only [Act.put, sI, sZ, sS]
      refine take_op (i := 9) (d := 24) (OP := Op.fieldAddr 39 (Operand.tmp 23) 0) (T := 0) (v := .pointer (some ⟨B, 0, none⟩)) rfl rfl rfl rfl (by kernel_rfl) (by kernel_rfl) (by kernel_rfl) (fun _ _ _ h => h) (by rfl) (fun w' _ => exec_fa23_0 rfl) hHeld ?_
      try simp only [Act.put, sI, sZ, sS]
      refine take_op (i := 10) (d := 25) (OP := Op.load 3 (Operand.tmp 24)) (T := 3) (v := .int .i64 r') rfl rfl rfl rfl (by kernel_rfl) (by kernel_rfl) (by kernel_rfl) (fun _ _ _ h => h) (by rfl) (fun w' hSw => exec_load3 rfl hSw.2.2.2.2.2.2.2.2.2.2.2.2.2.1) hHeld ?_
      try simp only [Act.put, sI, sZ, sS]
      refine take_op (i := 11) (d := 26) (OP := Op.build 175 #[(0, Operand.tmp 22), (1, Operand.tmp 25)]) (T := 175) (v := .agg #[.int .i64 r, .int .i64 r']) rfl rfl rfl rfl (by kernel_rfl) (by kernel_rfl) (by kernel_rfl) (fun _ _ _ h => h) (by rfl) (fun w' _ => exec_build126 rfl rfl) hHeld ?_
      try simp only [Act.put, sI, sZ, sS]
      refine take_op (i := 12) (d := 27) (OP := Op.fieldAddr 41 (Operand.tmp 5) 0) (T := 0) (v := .pointer (some ⟨A, 0, none⟩)) rfl rfl rfl rfl (by kernel_rfl) (by kernel_rfl) (by kernel_rfl) (fun _ _ _ h => h) (by rfl) (fun w' _ => exec_fa25_0 rfl) hHeld ?_
      try simp only [Act.put, sI, sZ, sS]
      refine take_op (i := 13) (d := 28) (OP := Op.fieldAddr 39 (Operand.tmp 27) 1) (T := 0) (v := .pointer (some ⟨A, 1, none⟩)) rfl rfl rfl rfl (by kernel_rfl) (by kernel_rfl) (by kernel_rfl) (fun _ _ _ h => h) (by rfl) (fun w' _ => exec_fa23_1 rfl) hHeld ?_
      try simp only [Act.put, sI, sZ, sS]
      refine take_op (i := 14) (d := 29) (OP := Op.load 9 (Operand.tmp 28)) (T := 9) (v := .string l) rfl rfl rfl rfl (by kernel_rfl) (by kernel_rfl) (by kernel_rfl) (fun _ _ _ h => h) (by rfl) (fun w' hSw => exec_load9 rfl hSw.2.2.2.2.2.2.2.2.2.2.2.1) hHeld ?_
      try simp only [Act.put, sI, sZ, sS]
      refine take_op (i := 15) (d := 30) (OP := Op.fieldAddr 41 (Operand.tmp 6) 0) (T := 0) (v := .pointer (some ⟨B, 0, none⟩)) rfl rfl rfl rfl (by kernel_rfl) (by kernel_rfl) (by kernel_rfl) (fun _ _ _ h => h) (by rfl) (fun w' _ => exec_fa25_0 rfl) hHeld ?_
      try simp only [Act.put, sI, sZ, sS]
      refine take_op (i := 16) (d := 31) (OP := Op.fieldAddr 39 (Operand.tmp 30) 1) (T := 0) (v := .pointer (some ⟨B, 1, none⟩)) rfl rfl rfl rfl (by kernel_rfl) (by kernel_rfl) (by kernel_rfl) (fun _ _ _ h => h) (by rfl) (fun w' _ => exec_fa23_1 rfl) hHeld ?_
      try simp only [Act.put, sI, sZ, sS]
      refine take_op (i := 17) (d := 32) (OP := Op.load 9 (Operand.tmp 31)) (T := 9) (v := .string l') rfl rfl rfl rfl (by kernel_rfl) (by kernel_rfl) (by kernel_rfl) (fun _ _ _ h => h) (by rfl) (fun w' hSw => exec_load9 rfl hSw.2.2.2.2.2.2.2.2.2.2.2.2.2.2.1) hHeld ?_
      try simp only [Act.put, sI, sZ, sS]
      refine take_op (i := 20) (d := 35) (OP := Op.fieldAddr 41 (Operand.tmp 5) 1) (T := 0) (v := .pointer (some ⟨A, 2, none⟩)) rfl rfl rfl rfl (by kernel_rfl) (by kernel_rfl) (by kernel_rfl) (fun _ _ _ h => h) (by rfl) (fun w' _ => exec_fa25_1 rfl) hHeld ?_
      try simp only [Act.put, sI, sZ, sS]
      refine take_op (i := 21) (d := 36) (OP := Op.load 2 (Operand.tmp 35)) (T := 2) (v := .int .i64 n) rfl rfl rfl rfl (by kernel_rfl) (by kernel_rfl) (by kernel_rfl) (fun _ _ _ h => h) (by rfl) (fun w' hSw => exec_load2 rfl hSw.2.2.2.2.2.2.2.2.2.2.2.2.1) hHeld ?_
      try simp only [Act.put, sI, sZ, sS]
      refine take_op (i := 22) (d := 37) (OP := Op.fieldAddr 41 (Operand.tmp 6) 1) (T := 0) (v := .pointer (some ⟨B, 2, none⟩)) rfl rfl rfl rfl (by kernel_rfl) (by kernel_rfl) (by kernel_rfl) (fun _ _ _ h => h) (by rfl) (fun w' _ => exec_fa25_1 rfl) hHeld ?_
      try simp only [Act.put, sI, sZ, sS]
      refine take_op (i := 23) (d := 38) (OP := Op.load 2 (Operand.tmp 37)) (T := 2) (v := .int .i64 n') rfl rfl rfl rfl (by kernel_rfl) (by kernel_rfl) (by kernel_rfl) (fun _ _ _ h => h) (by rfl) (fun w' hSw => exec_load2 rfl hSw.2.2.2.2.2.2.2.2.2.2.2.2.2.2.2) hHeld ?_
      try simp only [Act.put, sI, sZ, sS]
      refine take_op (i := 24) (d := 39) (OP := Op.build 175 #[(0, Operand.tmp 36), (1, Operand.tmp 38)]) (T := 175) (v := .agg #[.int .i64 n, .int .i64 n']) rfl rfl rfl rfl (by kernel_rfl) (by kernel_rfl) (by kernel_rfl) (fun _ _ _ h => h) (by rfl) (fun w' _ => exec_build126 rfl rfl) hHeld ?_
      try simp only [Act.put, sI, sZ, sS]
      refine take_op (i := 25) (d := 40) (OP := Op.fieldAddr 43 (Operand.tmp 2) 2) (T := 0) (v := .pointer (some ⟨w.heap.size, 4, none⟩)) rfl rfl rfl rfl (by kernel_rfl) (by kernel_rfl) (by kernel_rfl) (fun _ _ _ h => h) (by rfl) (fun w' _ => exec_fa27_2 rfl) hHeld ?_
      try simp only [Act.put, sI, sZ, sS]
      refine take_op (i := 26) (d := 41) (OP := Op.load 3 (Operand.tmp 40)) (T := 3) (v := .int .i64 x) rfl rfl rfl rfl (by kernel_rfl) (by kernel_rfl) (by kernel_rfl) (fun _ _ _ h => h) (by rfl) (fun w' hSw => exec_load3 rfl hSw.2.2.2.2.1) hHeld ?_
      try simp only [Act.put, sI, sZ, sS]
      refine take_op (i := 27) (d := 42) (OP := Op.fieldAddr 43 (Operand.tmp 3) 2) (T := 0) (v := .pointer (some ⟨w.heap.size + 1, 4, none⟩)) rfl rfl rfl rfl (by kernel_rfl) (by kernel_rfl) (by kernel_rfl) (fun _ _ _ h => h) (by rfl) (fun w' _ => exec_fa27_2 rfl) hHeld ?_
      try simp only [Act.put, sI, sZ, sS]
      refine take_op (i := 28) (d := 43) (OP := Op.load 3 (Operand.tmp 42)) (T := 3) (v := .int .i64 x') rfl rfl rfl rfl (by kernel_rfl) (by kernel_rfl) (by kernel_rfl) (fun _ _ _ h => h) (by rfl) (fun w' hSw => exec_load3 rfl hSw.2.2.2.2.2.2.2.2.2.1) hHeld ?_
      try simp only [Act.put, sI, sZ, sS]
      refine take_op (i := 29) (d := 44) (OP := Op.build 175 #[(0, Operand.tmp 41), (1, Operand.tmp 43)]) (T := 175) (v := .agg #[.int .i64 x, .int .i64 x']) rfl rfl rfl rfl (by kernel_rfl) (by kernel_rfl) (by kernel_rfl) (fun _ _ _ h => h) (by rfl) (fun w' _ => exec_build126 rfl rfl) hHeld ?_
      try simp only [Act.put, sI, sZ, sS]
      have hH0 := hHeld
      have hSl : (W1.alloc (.cells #[.int .i64 0, .int .i64 0, .int .i64 0, .int .i64 0, .int .i64 0, .int .i64 0, .int .i64 0, .int .i64 0, .int .i64 0, .int .i64 0] 176)).cell? ⟨w.heap.size, 0, none⟩ = some (.int .i64 g) ∧ (W1.alloc (.cells #[.int .i64 0, .int .i64 0, .int .i64 0, .int .i64 0, .int .i64 0, .int .i64 0, .int .i64 0, .int .i64 0, .int .i64 0, .int .i64 0] 176)).cell? ⟨w.heap.size, 1, none⟩ = some (.int .i64 r) ∧ (W1.alloc (.cells #[.int .i64 0, .int .i64 0, .int .i64 0, .int .i64 0, .int .i64 0, .int .i64 0, .int .i64 0, .int .i64 0, .int .i64 0, .int .i64 0] 176)).cell? ⟨w.heap.size, 2, none⟩ = some (.string l) ∧ (W1.alloc (.cells #[.int .i64 0, .int .i64 0, .int .i64 0, .int .i64 0, .int .i64 0, .int .i64 0, .int .i64 0, .int .i64 0, .int .i64 0, .int .i64 0] 176)).cell? ⟨w.heap.size, 3, none⟩ = some (.int .i64 n) ∧ (W1.alloc (.cells #[.int .i64 0, .int .i64 0, .int .i64 0, .int .i64 0, .int .i64 0, .int .i64 0, .int .i64 0, .int .i64 0, .int .i64 0, .int .i64 0] 176)).cell? ⟨w.heap.size, 4, none⟩ = some (.int .i64 x) ∧ (W1.alloc (.cells #[.int .i64 0, .int .i64 0, .int .i64 0, .int .i64 0, .int .i64 0, .int .i64 0, .int .i64 0, .int .i64 0, .int .i64 0, .int .i64 0] 176)).cell? ⟨w.heap.size + 1, 0, none⟩ = some (.int .i64 g') ∧ (W1.alloc (.cells #[.int .i64 0, .int .i64 0, .int .i64 0, .int .i64 0, .int .i64 0, .int .i64 0, .int .i64 0, .int .i64 0, .int .i64 0, .int .i64 0] 176)).cell? ⟨w.heap.size + 1, 1, none⟩ = some (.int .i64 r') ∧ (W1.alloc (.cells #[.int .i64 0, .int .i64 0, .int .i64 0, .int .i64 0, .int .i64 0, .int .i64 0, .int .i64 0, .int .i64 0, .int .i64 0, .int .i64 0] 176)).cell? ⟨w.heap.size + 1, 2, none⟩ = some (.string l') ∧ (W1.alloc (.cells #[.int .i64 0, .int .i64 0, .int .i64 0, .int .i64 0, .int .i64 0, .int .i64 0, .int .i64 0, .int .i64 0, .int .i64 0, .int .i64 0] 176)).cell? ⟨w.heap.size + 1, 3, none⟩ = some (.int .i64 n') ∧ (W1.alloc (.cells #[.int .i64 0, .int .i64 0, .int .i64 0, .int .i64 0, .int .i64 0, .int .i64 0, .int .i64 0, .int .i64 0, .int .i64 0, .int .i64 0] 176)).cell? ⟨w.heap.size + 1, 4, none⟩ = some (.int .i64 x') ∧ (W1.alloc (.cells #[.int .i64 0, .int .i64 0, .int .i64 0, .int .i64 0, .int .i64 0, .int .i64 0, .int .i64 0, .int .i64 0, .int .i64 0, .int .i64 0] 176)).cell? ⟨A, 0, none⟩ = some (.int .i64 r) ∧ (W1.alloc (.cells #[.int .i64 0, .int .i64 0, .int .i64 0, .int .i64 0, .int .i64 0, .int .i64 0, .int .i64 0, .int .i64 0, .int .i64 0, .int .i64 0] 176)).cell? ⟨A, 1, none⟩ = some (.string l) ∧ (W1.alloc (.cells #[.int .i64 0, .int .i64 0, .int .i64 0, .int .i64 0, .int .i64 0, .int .i64 0, .int .i64 0, .int .i64 0, .int .i64 0, .int .i64 0] 176)).cell? ⟨A, 2, none⟩ = some (.int .i64 n) ∧ (W1.alloc (.cells #[.int .i64 0, .int .i64 0, .int .i64 0, .int .i64 0, .int .i64 0, .int .i64 0, .int .i64 0, .int .i64 0, .int .i64 0, .int .i64 0] 176)).cell? ⟨B, 0, none⟩ = some (.int .i64 r') ∧ (W1.alloc (.cells #[.int .i64 0, .int .i64 0, .int .i64 0, .int .i64 0, .int .i64 0, .int .i64 0, .int .i64 0, .int .i64 0, .int .i64 0, .int .i64 0] 176)).cell? ⟨B, 1, none⟩ = some (.string l') ∧ (W1.alloc (.cells #[.int .i64 0, .int .i64 0, .int .i64 0, .int .i64 0, .int .i64 0, .int .i64 0, .int .i64 0, .int .i64 0, .int .i64 0, .int .i64 0] 176)).cell? ⟨B, 2, none⟩ = some (.int .i64 n') := ⟨kept (below_new W1 (.cells #[.int .i64 0, .int .i64 0, .int .i64 0, .int .i64 0, .int .i64 0, .int .i64 0, .int .i64 0, .int .i64 0, .int .i64 0, .int .i64 0] 176)) hHeld.1, kept (below_new W1 (.cells #[.int .i64 0, .int .i64 0, .int .i64 0, .int .i64 0, .int .i64 0, .int .i64 0, .int .i64 0, .int .i64 0, .int .i64 0, .int .i64 0] 176)) hHeld.2.1, kept (below_new W1 (.cells #[.int .i64 0, .int .i64 0, .int .i64 0, .int .i64 0, .int .i64 0, .int .i64 0, .int .i64 0, .int .i64 0, .int .i64 0, .int .i64 0] 176)) hHeld.2.2.1, kept (below_new W1 (.cells #[.int .i64 0, .int .i64 0, .int .i64 0, .int .i64 0, .int .i64 0, .int .i64 0, .int .i64 0, .int .i64 0, .int .i64 0, .int .i64 0] 176)) hHeld.2.2.2.1, kept (below_new W1 (.cells #[.int .i64 0, .int .i64 0, .int .i64 0, .int .i64 0, .int .i64 0, .int .i64 0, .int .i64 0, .int .i64 0, .int .i64 0, .int .i64 0] 176)) hHeld.2.2.2.2.1, kept (below_new W1 (.cells #[.int .i64 0, .int .i64 0, .int .i64 0, .int .i64 0, .int .i64 0, .int .i64 0, .int .i64 0, .int .i64 0, .int .i64 0, .int .i64 0] 176)) hHeld.2.2.2.2.2.1, kept (below_new W1 (.cells #[.int .i64 0, .int .i64 0, .int .i64 0, .int .i64 0, .int .i64 0, .int .i64 0, .int .i64 0, .int .i64 0, .int .i64 0, .int .i64 0] 176)) hHeld.2.2.2.2.2.2.1, kept (below_new W1 (.cells #[.int .i64 0, .int .i64 0, .int .i64 0, .int .i64 0, .int .i64 0, .int .i64 0, .int .i64 0, .int .i64 0, .int .i64 0, .int .i64 0] 176)) hHeld.2.2.2.2.2.2.2.1, kept (below_new W1 (.cells #[.int .i64 0, .int .i64 0, .int .i64 0, .int .i64 0, .int .i64 0, .int .i64 0, .int .i64 0, .int .i64 0, .int .i64 0, .int .i64 0] 176)) hHeld.2.2.2.2.2.2.2.2.1, kept (below_new W1 (.cells #[.int .i64 0, .int .i64 0, .int .i64 0, .int .i64 0, .int .i64 0, .int .i64 0, .int .i64 0, .int .i64 0, .int .i64 0, .int .i64 0] 176)) hHeld.2.2.2.2.2.2.2.2.2.1, kept (below_new W1 (.cells #[.int .i64 0, .int .i64 0, .int .i64 0, .int .i64 0, .int .i64 0, .int .i64 0, .int .i64 0, .int .i64 0, .int .i64 0, .int .i64 0] 176)) hHeld.2.2.2.2.2.2.2.2.2.2.1, kept (below_new W1 (.cells #[.int .i64 0, .int .i64 0, .int .i64 0, .int .i64 0, .int .i64 0, .int .i64 0, .int .i64 0, .int .i64 0, .int .i64 0, .int .i64 0] 176)) hHeld.2.2.2.2.2.2.2.2.2.2.2.1, kept (below_new W1 (.cells #[.int .i64 0, .int .i64 0, .int .i64 0, .int .i64 0, .int .i64 0, .int .i64 0, .int .i64 0, .int .i64 0, .int .i64 0, .int .i64 0] 176)) hHeld.2.2.2.2.2.2.2.2.2.2.2.2.1, kept (below_new W1 (.cells #[.int .i64 0, .int .i64 0, .int .i64 0, .int .i64 0, .int .i64 0, .int .i64 0, .int .i64 0, .int .i64 0, .int .i64 0, .int .i64 0] 176)) hHeld.2.2.2.2.2.2.2.2.2.2.2.2.2.1, kept (below_new W1 (.cells #[.int .i64 0, .int .i64 0, .int .i64 0, .int .i64 0, .int .i64 0, .int .i64 0, .int .i64 0, .int .i64 0, .int .i64 0, .int .i64 0] 176)) hHeld.2.2.2.2.2.2.2.2.2.2.2.2.2.2.1, kept (below_new W1 (.cells #[.int .i64 0, .int .i64 0, .int .i64 0, .int .i64 0, .int .i64 0, .int .i64 0, .int .i64 0, .int .i64 0, .int .i64 0, .int .i64 0] 176)) hHeld.2.2.2.2.2.2.2.2.2.2.2.2.2.2.2⟩
      refine call_turn_op (i := 18) (di := 33) (OPi := Op.call { callee := Callee.value (Operand.func 180), args := #[Operand.tmp 29, Operand.tmp 32], argTypes := #[9, 9] }) (Ti := 3) (j := 31) (dj := 7) (OPj := Op.alloc 176) (Tj := 0) (f := 180) (args := #[.string l, .string l']) (u := .pointer (some ⟨W1.heap.size, 0, none⟩)) (w' := W1.alloc (.cells #[.int .i64 0, .int .i64 0, .int .i64 0, .int .i64 0, .int .i64 0, .int .i64 0, .int .i64 0, .int .i64 0, .int .i64 0, .int .i64 0] 176)) rfl rfl rfl rfl rfl rfl rfl rfl (by kernel_rfl) (by rfl) (by rfl) (by go_simp) exec_alloc128 hSl ?_ ?_
      · refine (h100 _).mono ?_
        rintro e v1 ⟨rfl, hv1⟩
        subst hv1
        refine ⟨_, rfl, hHeld, ?_⟩
        try simp only [Act.put, sI, sZ, sS]
        refine take_op (i := 19) (d := 34) (OP := Op.build 175 #[(0, Operand.tmp 33), (1, Operand.const (Value.int IntKind.i64 0))]) (T := 175) (v := .agg #[.int .i64 cb, .int .i64 0]) rfl rfl rfl rfl (by kernel_rfl) (by kernel_rfl) (by kernel_rfl) (fun _ _ _ h => h) (by rfl) (fun w' _ => exec_build126 rfl rfl) hHeld ?_
        try simp only [Act.put, sI, sZ, sS]
        refine take_op (i := 30) (d := 45) (OP := Op.build 176 #[(0, Operand.tmp 19), (1, Operand.tmp 26), (2, Operand.tmp 34), (3, Operand.tmp 39), (4, Operand.tmp 44)]) (T := 176) (v := .agg #[.int .i64 g, .int .i64 g', .int .i64 r, .int .i64 r', .int .i64 cb, .int .i64 0, .int .i64 n, .int .i64 n', .int .i64 x, .int .i64 x']) rfl rfl rfl rfl (by kernel_rfl) (by kernel_rfl) (by kernel_rfl) (fun _ _ _ h => h) (by rfl) (fun w' _ => exec_build128 rfl rfl rfl rfl rfl) hHeld ?_
        try simp only [Act.put, sI, sZ, sS]
        refine turn_op (i := 31) (d := 7) (OP := Op.alloc 176) (T := 0) (v := .pointer (some ⟨v1.heap.size, 0, none⟩)) (w' := v1.alloc (.cells #[.int .i64 0, .int .i64 0, .int .i64 0, .int .i64 0, .int .i64 0, .int .i64 0, .int .i64 0, .int .i64 0, .int .i64 0, .int .i64 0] 176)) rfl rfl rfl rfl (by kernel_rfl) (by rfl) (exec_alloc128) hSl ?_
        replace hHeld := hSl
        try simp only [Act.put, sI, sZ, sS]
        have hSf : (v1.alloc (.cells #[.int .i64 g, .int .i64 g', .int .i64 r, .int .i64 r', .int .i64 cb, .int .i64 0, .int .i64 n, .int .i64 n', .int .i64 x, .int .i64 x'] 176)).cell? ⟨w.heap.size, 0, none⟩ = some (.int .i64 g) ∧ (v1.alloc (.cells #[.int .i64 g, .int .i64 g', .int .i64 r, .int .i64 r', .int .i64 cb, .int .i64 0, .int .i64 n, .int .i64 n', .int .i64 x, .int .i64 x'] 176)).cell? ⟨w.heap.size, 1, none⟩ = some (.int .i64 r) ∧ (v1.alloc (.cells #[.int .i64 g, .int .i64 g', .int .i64 r, .int .i64 r', .int .i64 cb, .int .i64 0, .int .i64 n, .int .i64 n', .int .i64 x, .int .i64 x'] 176)).cell? ⟨w.heap.size, 2, none⟩ = some (.string l) ∧ (v1.alloc (.cells #[.int .i64 g, .int .i64 g', .int .i64 r, .int .i64 r', .int .i64 cb, .int .i64 0, .int .i64 n, .int .i64 n', .int .i64 x, .int .i64 x'] 176)).cell? ⟨w.heap.size, 3, none⟩ = some (.int .i64 n) ∧ (v1.alloc (.cells #[.int .i64 g, .int .i64 g', .int .i64 r, .int .i64 r', .int .i64 cb, .int .i64 0, .int .i64 n, .int .i64 n', .int .i64 x, .int .i64 x'] 176)).cell? ⟨w.heap.size, 4, none⟩ = some (.int .i64 x) ∧ (v1.alloc (.cells #[.int .i64 g, .int .i64 g', .int .i64 r, .int .i64 r', .int .i64 cb, .int .i64 0, .int .i64 n, .int .i64 n', .int .i64 x, .int .i64 x'] 176)).cell? ⟨w.heap.size + 1, 0, none⟩ = some (.int .i64 g') ∧ (v1.alloc (.cells #[.int .i64 g, .int .i64 g', .int .i64 r, .int .i64 r', .int .i64 cb, .int .i64 0, .int .i64 n, .int .i64 n', .int .i64 x, .int .i64 x'] 176)).cell? ⟨w.heap.size + 1, 1, none⟩ = some (.int .i64 r') ∧ (v1.alloc (.cells #[.int .i64 g, .int .i64 g', .int .i64 r, .int .i64 r', .int .i64 cb, .int .i64 0, .int .i64 n, .int .i64 n', .int .i64 x, .int .i64 x'] 176)).cell? ⟨w.heap.size + 1, 2, none⟩ = some (.string l') ∧ (v1.alloc (.cells #[.int .i64 g, .int .i64 g', .int .i64 r, .int .i64 r', .int .i64 cb, .int .i64 0, .int .i64 n, .int .i64 n', .int .i64 x, .int .i64 x'] 176)).cell? ⟨w.heap.size + 1, 3, none⟩ = some (.int .i64 n') ∧ (v1.alloc (.cells #[.int .i64 g, .int .i64 g', .int .i64 r, .int .i64 r', .int .i64 cb, .int .i64 0, .int .i64 n, .int .i64 n', .int .i64 x, .int .i64 x'] 176)).cell? ⟨w.heap.size + 1, 4, none⟩ = some (.int .i64 x') ∧ (v1.alloc (.cells #[.int .i64 g, .int .i64 g', .int .i64 r, .int .i64 r', .int .i64 cb, .int .i64 0, .int .i64 n, .int .i64 n', .int .i64 x, .int .i64 x'] 176)).cell? ⟨A, 0, none⟩ = some (.int .i64 r) ∧ (v1.alloc (.cells #[.int .i64 g, .int .i64 g', .int .i64 r, .int .i64 r', .int .i64 cb, .int .i64 0, .int .i64 n, .int .i64 n', .int .i64 x, .int .i64 x'] 176)).cell? ⟨A, 1, none⟩ = some (.string l) ∧ (v1.alloc (.cells #[.int .i64 g, .int .i64 g', .int .i64 r, .int .i64 r', .int .i64 cb, .int .i64 0, .int .i64 n, .int .i64 n', .int .i64 x, .int .i64 x'] 176)).cell? ⟨A, 2, none⟩ = some (.int .i64 n) ∧ (v1.alloc (.cells #[.int .i64 g, .int .i64 g', .int .i64 r, .int .i64 r', .int .i64 cb, .int .i64 0, .int .i64 n, .int .i64 n', .int .i64 x, .int .i64 x'] 176)).cell? ⟨B, 0, none⟩ = some (.int .i64 r') ∧ (v1.alloc (.cells #[.int .i64 g, .int .i64 g', .int .i64 r, .int .i64 r', .int .i64 cb, .int .i64 0, .int .i64 n, .int .i64 n', .int .i64 x, .int .i64 x'] 176)).cell? ⟨B, 1, none⟩ = some (.string l') ∧ (v1.alloc (.cells #[.int .i64 g, .int .i64 g', .int .i64 r, .int .i64 r', .int .i64 cb, .int .i64 0, .int .i64 n, .int .i64 n', .int .i64 x, .int .i64 x'] 176)).cell? ⟨B, 2, none⟩ = some (.int .i64 n') := ⟨kept (below_new v1 (.cells #[.int .i64 g, .int .i64 g', .int .i64 r, .int .i64 r', .int .i64 cb, .int .i64 0, .int .i64 n, .int .i64 n', .int .i64 x, .int .i64 x'] 176)) hH0.1, kept (below_new v1 (.cells #[.int .i64 g, .int .i64 g', .int .i64 r, .int .i64 r', .int .i64 cb, .int .i64 0, .int .i64 n, .int .i64 n', .int .i64 x, .int .i64 x'] 176)) hH0.2.1, kept (below_new v1 (.cells #[.int .i64 g, .int .i64 g', .int .i64 r, .int .i64 r', .int .i64 cb, .int .i64 0, .int .i64 n, .int .i64 n', .int .i64 x, .int .i64 x'] 176)) hH0.2.2.1, kept (below_new v1 (.cells #[.int .i64 g, .int .i64 g', .int .i64 r, .int .i64 r', .int .i64 cb, .int .i64 0, .int .i64 n, .int .i64 n', .int .i64 x, .int .i64 x'] 176)) hH0.2.2.2.1, kept (below_new v1 (.cells #[.int .i64 g, .int .i64 g', .int .i64 r, .int .i64 r', .int .i64 cb, .int .i64 0, .int .i64 n, .int .i64 n', .int .i64 x, .int .i64 x'] 176)) hH0.2.2.2.2.1, kept (below_new v1 (.cells #[.int .i64 g, .int .i64 g', .int .i64 r, .int .i64 r', .int .i64 cb, .int .i64 0, .int .i64 n, .int .i64 n', .int .i64 x, .int .i64 x'] 176)) hH0.2.2.2.2.2.1, kept (below_new v1 (.cells #[.int .i64 g, .int .i64 g', .int .i64 r, .int .i64 r', .int .i64 cb, .int .i64 0, .int .i64 n, .int .i64 n', .int .i64 x, .int .i64 x'] 176)) hH0.2.2.2.2.2.2.1, kept (below_new v1 (.cells #[.int .i64 g, .int .i64 g', .int .i64 r, .int .i64 r', .int .i64 cb, .int .i64 0, .int .i64 n, .int .i64 n', .int .i64 x, .int .i64 x'] 176)) hH0.2.2.2.2.2.2.2.1, kept (below_new v1 (.cells #[.int .i64 g, .int .i64 g', .int .i64 r, .int .i64 r', .int .i64 cb, .int .i64 0, .int .i64 n, .int .i64 n', .int .i64 x, .int .i64 x'] 176)) hH0.2.2.2.2.2.2.2.2.1, kept (below_new v1 (.cells #[.int .i64 g, .int .i64 g', .int .i64 r, .int .i64 r', .int .i64 cb, .int .i64 0, .int .i64 n, .int .i64 n', .int .i64 x, .int .i64 x'] 176)) hH0.2.2.2.2.2.2.2.2.2.1, kept (below_new v1 (.cells #[.int .i64 g, .int .i64 g', .int .i64 r, .int .i64 r', .int .i64 cb, .int .i64 0, .int .i64 n, .int .i64 n', .int .i64 x, .int .i64 x'] 176)) hH0.2.2.2.2.2.2.2.2.2.2.1, kept (below_new v1 (.cells #[.int .i64 g, .int .i64 g', .int .i64 r, .int .i64 r', .int .i64 cb, .int .i64 0, .int .i64 n, .int .i64 n', .int .i64 x, .int .i64 x'] 176)) hH0.2.2.2.2.2.2.2.2.2.2.2.1, kept (below_new v1 (.cells #[.int .i64 g, .int .i64 g', .int .i64 r, .int .i64 r', .int .i64 cb, .int .i64 0, .int .i64 n, .int .i64 n', .int .i64 x, .int .i64 x'] 176)) hH0.2.2.2.2.2.2.2.2.2.2.2.2.1, kept (below_new v1 (.cells #[.int .i64 g, .int .i64 g', .int .i64 r, .int .i64 r', .int .i64 cb, .int .i64 0, .int .i64 n, .int .i64 n', .int .i64 x, .int .i64 x'] 176)) hH0.2.2.2.2.2.2.2.2.2.2.2.2.2.1, kept (below_new v1 (.cells #[.int .i64 g, .int .i64 g', .int .i64 r, .int .i64 r', .int .i64 cb, .int .i64 0, .int .i64 n, .int .i64 n', .int .i64 x, .int .i64 x'] 176)) hH0.2.2.2.2.2.2.2.2.2.2.2.2.2.2.1, kept (below_new v1 (.cells #[.int .i64 g, .int .i64 g', .int .i64 r, .int .i64 r', .int .i64 cb, .int .i64 0, .int .i64 n, .int .i64 n', .int .i64 x, .int .i64 x'] 176)) hH0.2.2.2.2.2.2.2.2.2.2.2.2.2.2.2⟩
        refine skip_op (i := 32) (OP := Op.store 176 (Operand.tmp 7) (Operand.tmp 45)) (T := 0) (w' := v1.alloc (.cells #[.int .i64 g, .int .i64 g', .int .i64 r, .int .i64 r', .int .i64 cb, .int .i64 0, .int .i64 n, .int .i64 n', .int .i64 x, .int .i64 x'] 176)) rfl rfl rfl rfl (by kernel_rfl) (by rfl) (exec_store_new (cs := [.int .i64 g, .int .i64 g', .int .i64 r, .int .i64 r', .int .i64 cb, .int .i64 0, .int .i64 n, .int .i64 n', .int .i64 x, .int .i64 x']) rfl rfl rfl (by kernel_rfl) rfl (by simp [Value.oneCell'])) ⟨hSf, ?_⟩
        refine wpAnyH_done (by kernel_rfl) ?_ _
        go_wp2
        go_meet
        exact ⟨v1.heap.size, rfl, hide ⟨heap_alloc_new v1 (.cells #[.int .i64 g, .int .i64 g', .int .i64 r, .int .i64 r', .int .i64 cb, .int .i64 0, .int .i64 n, .int .i64 n', .int .i64 x, .int .i64 x'] 176), hD.alloc hD.size _⟩⟩
      · try simp only [Act.put, sI, sZ, sS]
        replace hHeld := hSl
        refine call_op (i := 18) (d := 33) (OP := Op.call { callee := Callee.value (Operand.func 180), args := #[Operand.tmp 29, Operand.tmp 32], argTypes := #[9, 9] }) (T := 3) (f := 180) (args := #[.string l, .string l']) rfl rfl rfl rfl (by kernel_rfl) (by rfl) (by go_simp) ?_
        refine (h100 _).mono ?_
        rintro e v1 ⟨rfl, hv1⟩
        subst hv1
        refine ⟨_, rfl, hHeld, ?_⟩
        replace hHeld := hHeld
        try simp only [Act.put, sI, sZ, sS]
        refine take_op (i := 19) (d := 34) (OP := Op.build 175 #[(0, Operand.tmp 33), (1, Operand.const (Value.int IntKind.i64 0))]) (T := 175) (v := .agg #[.int .i64 cb, .int .i64 0]) rfl rfl rfl rfl (by kernel_rfl) (by kernel_rfl) (by kernel_rfl) (fun _ _ _ h => h) (by rfl) (fun w' _ => exec_build126 rfl rfl) hHeld ?_
        try simp only [Act.put, sI, sZ, sS]
        refine take_op (i := 30) (d := 45) (OP := Op.build 176 #[(0, Operand.tmp 19), (1, Operand.tmp 26), (2, Operand.tmp 34), (3, Operand.tmp 39), (4, Operand.tmp 44)]) (T := 176) (v := .agg #[.int .i64 g, .int .i64 g', .int .i64 r, .int .i64 r', .int .i64 cb, .int .i64 0, .int .i64 n, .int .i64 n', .int .i64 x, .int .i64 x']) rfl rfl rfl rfl (by kernel_rfl) (by kernel_rfl) (by kernel_rfl) (fun _ _ _ h => h) (by rfl) (fun w' _ => exec_build128 rfl rfl rfl rfl rfl) hHeld ?_
        try simp only [Act.put, sI, sZ, sS]
        have hSf : (W1.alloc (.cells #[.int .i64 g, .int .i64 g', .int .i64 r, .int .i64 r', .int .i64 cb, .int .i64 0, .int .i64 n, .int .i64 n', .int .i64 x, .int .i64 x'] 176)).cell? ⟨w.heap.size, 0, none⟩ = some (.int .i64 g) ∧ (W1.alloc (.cells #[.int .i64 g, .int .i64 g', .int .i64 r, .int .i64 r', .int .i64 cb, .int .i64 0, .int .i64 n, .int .i64 n', .int .i64 x, .int .i64 x'] 176)).cell? ⟨w.heap.size, 1, none⟩ = some (.int .i64 r) ∧ (W1.alloc (.cells #[.int .i64 g, .int .i64 g', .int .i64 r, .int .i64 r', .int .i64 cb, .int .i64 0, .int .i64 n, .int .i64 n', .int .i64 x, .int .i64 x'] 176)).cell? ⟨w.heap.size, 2, none⟩ = some (.string l) ∧ (W1.alloc (.cells #[.int .i64 g, .int .i64 g', .int .i64 r, .int .i64 r', .int .i64 cb, .int .i64 0, .int .i64 n, .int .i64 n', .int .i64 x, .int .i64 x'] 176)).cell? ⟨w.heap.size, 3, none⟩ = some (.int .i64 n) ∧ (W1.alloc (.cells #[.int .i64 g, .int .i64 g', .int .i64 r, .int .i64 r', .int .i64 cb, .int .i64 0, .int .i64 n, .int .i64 n', .int .i64 x, .int .i64 x'] 176)).cell? ⟨w.heap.size, 4, none⟩ = some (.int .i64 x) ∧ (W1.alloc (.cells #[.int .i64 g, .int .i64 g', .int .i64 r, .int .i64 r', .int .i64 cb, .int .i64 0, .int .i64 n, .int .i64 n', .int .i64 x, .int .i64 x'] 176)).cell? ⟨w.heap.size + 1, 0, none⟩ = some (.int .i64 g') ∧ (W1.alloc (.cells #[.int .i64 g, .int .i64 g', .int .i64 r, .int .i64 r', .int .i64 cb, .int .i64 0, .int .i64 n, .int .i64 n', .int .i64 x, .int .i64 x'] 176)).cell? ⟨w.heap.size + 1, 1, none⟩ = some (.int .i64 r') ∧ (W1.alloc (.cells #[.int .i64 g, .int .i64 g', .int .i64 r, .int .i64 r', .int .i64 cb, .int .i64 0, .int .i64 n, .int .i64 n', .int .i64 x, .int .i64 x'] 176)).cell? ⟨w.heap.size + 1, 2, none⟩ = some (.string l') ∧ (W1.alloc (.cells #[.int .i64 g, .int .i64 g', .int .i64 r, .int .i64 r', .int .i64 cb, .int .i64 0, .int .i64 n, .int .i64 n', .int .i64 x, .int .i64 x'] 176)).cell? ⟨w.heap.size + 1, 3, none⟩ = some (.int .i64 n') ∧ (W1.alloc (.cells #[.int .i64 g, .int .i64 g', .int .i64 r, .int .i64 r', .int .i64 cb, .int .i64 0, .int .i64 n, .int .i64 n', .int .i64 x, .int .i64 x'] 176)).cell? ⟨w.heap.size + 1, 4, none⟩ = some (.int .i64 x') ∧ (W1.alloc (.cells #[.int .i64 g, .int .i64 g', .int .i64 r, .int .i64 r', .int .i64 cb, .int .i64 0, .int .i64 n, .int .i64 n', .int .i64 x, .int .i64 x'] 176)).cell? ⟨A, 0, none⟩ = some (.int .i64 r) ∧ (W1.alloc (.cells #[.int .i64 g, .int .i64 g', .int .i64 r, .int .i64 r', .int .i64 cb, .int .i64 0, .int .i64 n, .int .i64 n', .int .i64 x, .int .i64 x'] 176)).cell? ⟨A, 1, none⟩ = some (.string l) ∧ (W1.alloc (.cells #[.int .i64 g, .int .i64 g', .int .i64 r, .int .i64 r', .int .i64 cb, .int .i64 0, .int .i64 n, .int .i64 n', .int .i64 x, .int .i64 x'] 176)).cell? ⟨A, 2, none⟩ = some (.int .i64 n) ∧ (W1.alloc (.cells #[.int .i64 g, .int .i64 g', .int .i64 r, .int .i64 r', .int .i64 cb, .int .i64 0, .int .i64 n, .int .i64 n', .int .i64 x, .int .i64 x'] 176)).cell? ⟨B, 0, none⟩ = some (.int .i64 r') ∧ (W1.alloc (.cells #[.int .i64 g, .int .i64 g', .int .i64 r, .int .i64 r', .int .i64 cb, .int .i64 0, .int .i64 n, .int .i64 n', .int .i64 x, .int .i64 x'] 176)).cell? ⟨B, 1, none⟩ = some (.string l') ∧ (W1.alloc (.cells #[.int .i64 g, .int .i64 g', .int .i64 r, .int .i64 r', .int .i64 cb, .int .i64 0, .int .i64 n, .int .i64 n', .int .i64 x, .int .i64 x'] 176)).cell? ⟨B, 2, none⟩ = some (.int .i64 n') := ⟨kept (below_new W1 (.cells #[.int .i64 g, .int .i64 g', .int .i64 r, .int .i64 r', .int .i64 cb, .int .i64 0, .int .i64 n, .int .i64 n', .int .i64 x, .int .i64 x'] 176)) hH0.1, kept (below_new W1 (.cells #[.int .i64 g, .int .i64 g', .int .i64 r, .int .i64 r', .int .i64 cb, .int .i64 0, .int .i64 n, .int .i64 n', .int .i64 x, .int .i64 x'] 176)) hH0.2.1, kept (below_new W1 (.cells #[.int .i64 g, .int .i64 g', .int .i64 r, .int .i64 r', .int .i64 cb, .int .i64 0, .int .i64 n, .int .i64 n', .int .i64 x, .int .i64 x'] 176)) hH0.2.2.1, kept (below_new W1 (.cells #[.int .i64 g, .int .i64 g', .int .i64 r, .int .i64 r', .int .i64 cb, .int .i64 0, .int .i64 n, .int .i64 n', .int .i64 x, .int .i64 x'] 176)) hH0.2.2.2.1, kept (below_new W1 (.cells #[.int .i64 g, .int .i64 g', .int .i64 r, .int .i64 r', .int .i64 cb, .int .i64 0, .int .i64 n, .int .i64 n', .int .i64 x, .int .i64 x'] 176)) hH0.2.2.2.2.1, kept (below_new W1 (.cells #[.int .i64 g, .int .i64 g', .int .i64 r, .int .i64 r', .int .i64 cb, .int .i64 0, .int .i64 n, .int .i64 n', .int .i64 x, .int .i64 x'] 176)) hH0.2.2.2.2.2.1, kept (below_new W1 (.cells #[.int .i64 g, .int .i64 g', .int .i64 r, .int .i64 r', .int .i64 cb, .int .i64 0, .int .i64 n, .int .i64 n', .int .i64 x, .int .i64 x'] 176)) hH0.2.2.2.2.2.2.1, kept (below_new W1 (.cells #[.int .i64 g, .int .i64 g', .int .i64 r, .int .i64 r', .int .i64 cb, .int .i64 0, .int .i64 n, .int .i64 n', .int .i64 x, .int .i64 x'] 176)) hH0.2.2.2.2.2.2.2.1, kept (below_new W1 (.cells #[.int .i64 g, .int .i64 g', .int .i64 r, .int .i64 r', .int .i64 cb, .int .i64 0, .int .i64 n, .int .i64 n', .int .i64 x, .int .i64 x'] 176)) hH0.2.2.2.2.2.2.2.2.1, kept (below_new W1 (.cells #[.int .i64 g, .int .i64 g', .int .i64 r, .int .i64 r', .int .i64 cb, .int .i64 0, .int .i64 n, .int .i64 n', .int .i64 x, .int .i64 x'] 176)) hH0.2.2.2.2.2.2.2.2.2.1, kept (below_new W1 (.cells #[.int .i64 g, .int .i64 g', .int .i64 r, .int .i64 r', .int .i64 cb, .int .i64 0, .int .i64 n, .int .i64 n', .int .i64 x, .int .i64 x'] 176)) hH0.2.2.2.2.2.2.2.2.2.2.1, kept (below_new W1 (.cells #[.int .i64 g, .int .i64 g', .int .i64 r, .int .i64 r', .int .i64 cb, .int .i64 0, .int .i64 n, .int .i64 n', .int .i64 x, .int .i64 x'] 176)) hH0.2.2.2.2.2.2.2.2.2.2.2.1, kept (below_new W1 (.cells #[.int .i64 g, .int .i64 g', .int .i64 r, .int .i64 r', .int .i64 cb, .int .i64 0, .int .i64 n, .int .i64 n', .int .i64 x, .int .i64 x'] 176)) hH0.2.2.2.2.2.2.2.2.2.2.2.2.1, kept (below_new W1 (.cells #[.int .i64 g, .int .i64 g', .int .i64 r, .int .i64 r', .int .i64 cb, .int .i64 0, .int .i64 n, .int .i64 n', .int .i64 x, .int .i64 x'] 176)) hH0.2.2.2.2.2.2.2.2.2.2.2.2.2.1, kept (below_new W1 (.cells #[.int .i64 g, .int .i64 g', .int .i64 r, .int .i64 r', .int .i64 cb, .int .i64 0, .int .i64 n, .int .i64 n', .int .i64 x, .int .i64 x'] 176)) hH0.2.2.2.2.2.2.2.2.2.2.2.2.2.2.1, kept (below_new W1 (.cells #[.int .i64 g, .int .i64 g', .int .i64 r, .int .i64 r', .int .i64 cb, .int .i64 0, .int .i64 n, .int .i64 n', .int .i64 x, .int .i64 x'] 176)) hH0.2.2.2.2.2.2.2.2.2.2.2.2.2.2.2⟩
        refine skip_op (i := 32) (OP := Op.store 176 (Operand.tmp 7) (Operand.tmp 45)) (T := 0) (w' := W1.alloc (.cells #[.int .i64 g, .int .i64 g', .int .i64 r, .int .i64 r', .int .i64 cb, .int .i64 0, .int .i64 n, .int .i64 n', .int .i64 x, .int .i64 x'] 176)) rfl rfl rfl rfl (by kernel_rfl) (by rfl) (exec_store_new (cs := [.int .i64 g, .int .i64 g', .int .i64 r, .int .i64 r', .int .i64 cb, .int .i64 0, .int .i64 n, .int .i64 n', .int .i64 x, .int .i64 x']) rfl rfl rfl (by kernel_rfl) rfl (by simp [Value.oneCell'])) ⟨hSf, ?_⟩
        refine wpAnyH_done (by kernel_rfl) ?_ _
        go_wp2
        go_meet
        exact ⟨W1.heap.size, rfl, hide ⟨heap_alloc_new W1 (.cells #[.int .i64 g, .int .i64 g', .int .i64 r, .int .i64 r', .int .i64 cb, .int .i64 0, .int .i64 n, .int .i64 n', .int .i64 x, .int .i64 x'] 176), hD.alloc hD.size _⟩⟩
  case rest =>
  clear hS hD h100
  obtain ⟨Pn, rfl, HP⟩ := hcut
  obtain ⟨hP1, hP2⟩ := HP.out
  have hcc : ∀ j, wc.cell? ⟨Pn, j, none⟩ = (#[.int .i64 g, .int .i64 g', .int .i64 r, .int .i64 r', .int .i64 cb, .int .i64 0, .int .i64 n, .int .i64 n', .int .i64 x, .int .i64 x'] : Array Value)[j]? := fun j => cell_of_row _ _ j _ 176 (0, 0) hP1
  have q0 : wc.cell? ⟨Pn, 0, none⟩ = some (.int .i64 g) := hcc 0
  have q1 : wc.cell? ⟨Pn, 1, none⟩ = some (.int .i64 g') := hcc 1
  have q2 : wc.cell? ⟨Pn, 2, none⟩ = some (.int .i64 r) := hcc 2
  have q3 : wc.cell? ⟨Pn, 3, none⟩ = some (.int .i64 r') := hcc 3
  have q4 : wc.cell? ⟨Pn, 4, none⟩ = some (.int .i64 cb) := hcc 4
  have q5 : wc.cell? ⟨Pn, 5, none⟩ = some (.int .i64 0) := hcc 5
  have q6 : wc.cell? ⟨Pn, 6, none⟩ = some (.int .i64 n) := hcc 6
  have q7 : wc.cell? ⟨Pn, 7, none⟩ = some (.int .i64 n') := hcc 7
  have q8 : wc.cell? ⟨Pn, 8, none⟩ = some (.int .i64 x) := hcc 8
  have q9 : wc.cell? ⟨Pn, 9, none⟩ = some (.int .i64 x') := hcc 9
  clear hcc
  have hix0 : ∀ W, (Instr.index 176 (.agg #[.int .i64 g, .int .i64 g', .int .i64 r, .int .i64 r', .int .i64 cb, .int .i64 0, .int .i64 n, .int .i64 n', .int .i64 x, .int .i64 x']) (.int .i64 0)).run Tryz.prog W = .ok (.agg #[.int .i64 g, .int .i64 g']) W := fun W => by kernel_rfl
  have hix1 : ∀ W, (Instr.index 176 (.agg #[.int .i64 g, .int .i64 g', .int .i64 r, .int .i64 r', .int .i64 cb, .int .i64 0, .int .i64 n, .int .i64 n', .int .i64 x, .int .i64 x']) (.int .i64 1)).run Tryz.prog W = .ok (.agg #[.int .i64 r, .int .i64 r']) W := fun W => by kernel_rfl
  have hix2 : ∀ W, (Instr.index 176 (.agg #[.int .i64 g, .int .i64 g', .int .i64 r, .int .i64 r', .int .i64 cb, .int .i64 0, .int .i64 n, .int .i64 n', .int .i64 x, .int .i64 x']) (.int .i64 2)).run Tryz.prog W = .ok (.agg #[.int .i64 cb, .int .i64 0]) W := fun W => by kernel_rfl
  have hix3 : ∀ W, (Instr.index 176 (.agg #[.int .i64 g, .int .i64 g', .int .i64 r, .int .i64 r', .int .i64 cb, .int .i64 0, .int .i64 n, .int .i64 n', .int .i64 x, .int .i64 x']) (.int .i64 3)).run Tryz.prog W = .ok (.agg #[.int .i64 n, .int .i64 n']) W := fun W => by kernel_rfl
  have hix4 : ∀ W, (Instr.index 176 (.agg #[.int .i64 g, .int .i64 g', .int .i64 r, .int .i64 r', .int .i64 cb, .int .i64 0, .int .i64 n, .int .i64 n', .int .i64 x, .int .i64 x']) (.int .i64 4)).run Tryz.prog W = .ok (.agg #[.int .i64 x, .int .i64 x']) W := fun W => by kernel_rfl
  go_wp2
  refine wp_label ?_
  go_wp2
  go_loopw [8, 47] (fun v8 v47 wr => ∃ k : Nat, k ≤ 5 ∧ v47 = .int .i64 (k : Int) ∧ v8 = .int .i64 0 ∧ Hid (cmpPairs ([(g, g'), (r, r'), (cb, 0), (n, n'), (x, x')].drop k) = R) ∧ Hid (BelowG w.heap.size w wr)) (fun _ v47 _ => (5 - intOf v47).toNat)
  case atStart => exact ⟨0, by omega, rfl, rfl, hide HR.out, hide hP2⟩
  case round =>
    obtain ⟨k, hk, rfl, rfl, HC, HB⟩ := hrel
    have hsz := HB.out.size
    obtain rfl | rfl | rfl | rfl | rfl | rfl : k = 0 ∨ k = 1 ∨ k = 2 ∨ k = 3 ∨ k = 4 ∨ k = 5 := by omega
    · rcases pair_cases (g) (g') _ R HC.out with ⟨hlt, hr⟩ | ⟨hlt, hgt, hr⟩ | ⟨hlt, hgt, hr⟩
      · have HR2 := hide hr
        clear hr
        go_wp2
        try refine noGoto_ret ?_
        go_ret
        exact ⟨by rw [HR2.out] <;> rfl, HB.out.alloc hsz _⟩
      · have HR2 := hide hr
        clear hr
        go_wp2
        try refine noGoto_ret ?_
        go_ret
        exact ⟨by rw [HR2.out] <;> rfl, HB.out.alloc hsz _⟩
      · have HR2 := hide hr
        clear hr
        go_wp2
        exact ⟨⟨1, by omega, rfl, rfl, hide HR2.out, hide (HB.out.alloc hsz _)⟩, by simp [intOf]⟩
    · rcases pair_cases (r) (r') _ R HC.out with ⟨hlt, hr⟩ | ⟨hlt, hgt, hr⟩ | ⟨hlt, hgt, hr⟩
      · have HR2 := hide hr
        clear hr
        go_wp2
        try refine noGoto_ret ?_
        go_ret
        exact ⟨by rw [HR2.out] <;> rfl, HB.out.alloc hsz _⟩
      · have HR2 := hide hr
        clear hr
        go_wp2
        try refine noGoto_ret ?_
        go_ret
        exact ⟨by rw [HR2.out] <;> rfl, HB.out.alloc hsz _⟩
      · have HR2 := hide hr
        clear hr
        go_wp2
        exact ⟨⟨2, by omega, rfl, rfl, hide HR2.out, hide (HB.out.alloc hsz _)⟩, by simp [intOf]⟩
    · rcases pair_cases (cb) (0) _ R HC.out with ⟨hlt, hr⟩ | ⟨hlt, hgt, hr⟩ | ⟨hlt, hgt, hr⟩
      · have HR2 := hide hr
        clear hr
        go_wp2
        try refine noGoto_ret ?_
        go_ret
        exact ⟨by rw [HR2.out] <;> rfl, HB.out.alloc hsz _⟩
      · have HR2 := hide hr
        clear hr
        go_wp2
        try refine noGoto_ret ?_
        go_ret
        exact ⟨by rw [HR2.out] <;> rfl, HB.out.alloc hsz _⟩
      · have HR2 := hide hr
        clear hr
        go_wp2
        exact ⟨⟨3, by omega, rfl, rfl, hide HR2.out, hide (HB.out.alloc hsz _)⟩, by simp [intOf]⟩
    · rcases pair_cases (n) (n') _ R HC.out with ⟨hlt, hr⟩ | ⟨hlt, hgt, hr⟩ | ⟨hlt, hgt, hr⟩
      · have HR2 := hide hr
        clear hr
        go_wp2
        try refine noGoto_ret ?_
        go_ret
        exact ⟨by rw [HR2.out] <;> rfl, HB.out.alloc hsz _⟩
      · have HR2 := hide hr
        clear hr
        go_wp2
        try refine noGoto_ret ?_
        go_ret
        exact ⟨by rw [HR2.out] <;> rfl, HB.out.alloc hsz _⟩
      · have HR2 := hide hr
        clear hr
        go_wp2
        exact ⟨⟨4, by omega, rfl, rfl, hide HR2.out, hide (HB.out.alloc hsz _)⟩, by simp [intOf]⟩
    · rcases pair_cases (x) (x') _ R HC.out with ⟨hlt, hr⟩ | ⟨hlt, hgt, hr⟩ | ⟨hlt, hgt, hr⟩
      · have HR2 := hide hr
        clear hr
        go_wp2
        try refine noGoto_ret ?_
        go_ret
        exact ⟨by rw [HR2.out] <;> rfl, HB.out.alloc hsz _⟩
      · have HR2 := hide hr
        clear hr
        go_wp2
        try refine noGoto_ret ?_
        go_ret
        exact ⟨by rw [HR2.out] <;> rfl, HB.out.alloc hsz _⟩
      · have HR2 := hide hr
        clear hr
        go_wp2
        exact ⟨⟨5, by omega, rfl, rfl, hide HR2.out, hide (HB.out.alloc hsz _)⟩, by simp [intOf]⟩
    · have HR2 : Hid (R = 0) := hide HC.out.symm
      go_wp2
      try refine noGoto_ret ?_
      go_ret
      exact ⟨by rw [HR2.out] <;> rfl, HB.out⟩

end Go.Proofs.YtkkpdgfllnbigaaGreat
