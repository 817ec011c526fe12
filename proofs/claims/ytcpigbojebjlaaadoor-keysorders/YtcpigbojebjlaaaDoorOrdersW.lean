/-
  THE WALK over the statement KeysOrders.
-/
import Derived.Test.YtcpigbojebjlaaaDoorOpenQ
import Derived.Test.YtcpigbojebjlaaaDoorRefPlace
import Derived.Test.YtcpigbojebjlaaaDoorKnown
import Derived.Test.YtcpigbojebjlaaaDoorOrderM
import Derived.Deep.DeepCutAuto
import Derived.Deep.CutBlock
namespace Go.Proofs.YtcpigbojebjlaaaDoor
open Go.RowKit Go.Shelf
set_option linter.unusedSimpArgs false

/-- A place in a block of its own. -/
def PAq (w : World) (A : Nat) (a : Option Addr) (n c : Nat) (x : Int) (s : ByteArray) : Prop := w.heap[A]? = some (.cells #[.slice a n c, .int .i64 x, .string s] 47 (0, 0))
theorem PAq.cells {w : World} {A : Nat} {a : Option Addr} {n c : Nat} {x : Int} {s : ByteArray} (h : PAq w A a n c x s) : w.cell? ⟨A, 0, none⟩ = some (.slice a n c) ∧ w.cell? ⟨A, 1, none⟩ = some (.int .i64 x) ∧ w.cell? ⟨A, 2, none⟩ = some (.string s) := by
  obtain ⟨h1, h2, h3, _⟩ := blk3 h
  exact ⟨h1, h2, h3⟩

/-- The i-th of three places in the box. -/
def Place3 (w : World) (B i : Nat) (W : World) (a : Option Addr) (N c : Nat) (l : List ByteArray) (x : Int) (s : ByteArray) : Prop :=
  W.cell? ⟨B, i * 3, none⟩ = some (.slice a N c) ∧ W.cell? ⟨B, i * 3 + 1, none⟩ = some (.int .i64 x) ∧ W.cell? ⟨B, i * 3 + 2, none⟩ = some (.string s) ∧ N = l.length ∧ TextsIn w a c l ∧ s.size ≤ maxLen

set_option maxHeartbeats 4000000 in
set_option maxRecDepth 100000 in
theorem orders_walk {w : World} {a0 a1 a2 : Option Addr} {c0 c1 c2 : Nat} {l0 l1 l2 : List ByteArray} (x0 x1 x2 : Int) (s0 s1 s2 : ByteArray) (h0 : TextsIn w a0 c0 l0 ∧ s0.size ≤ maxLen) (h1 : TextsIn w a1 c1 l1 ∧ s1.size ≤ maxLen) (h2 : TextsIn w a2 c2 l2 ∧ s2.size ≤ maxLen) (hT : Tabs w) :
    Calls Tryd.prog 5 #[.agg #[.slice a0 l0.length c0, .int .i64 x0, .string s0, .slice a1 l1.length c1, .int .i64 x1, .string s1, .slice a2 l2.length c2, .int .i64 x2, .string s2]] w fun e w' => e = .returned (.bool true) ∧ Below w.heap.size w w' := by
  have hbx : Below w.heap.size w (w.alloc (.cells #[.slice a0 l0.length c0, .int .i64 x0, .string s0, .slice a1 l1.length c1, .int .i64 x1, .string s1, .slice a2 l2.length c2, .int .i64 x2, .string s2] 48)) := (Below.refl _ w).alloc (Nat.le_refl _) _
  have hbk := heap_alloc_new w (.cells #[.slice a0 l0.length c0, .int .i64 x0, .string s0, .slice a1 l1.length c1, .int .i64 x1, .string s1, .slice a2 l2.length c2, .int .i64 x2, .string s2] 48)
  have hsz : (w.alloc (.cells #[.slice a0 l0.length c0, .int .i64 x0, .string s0, .slice a1 l1.length c1, .int .i64 x1, .string s1, .slice a2 l2.length c2, .int .i64 x2, .string s2] 48)).heap.size = w.heap.size + 1 := by simp
  go_enter Tryd.func5, Tryd.ntmps5
  go_wp2
  generalize (w.alloc (.cells #[.slice a0 l0.length c0, .int .i64 x0, .string s0, .slice a1 l1.length c1, .int .i64 x1, .string s1, .slice a2 l2.length c2, .int .i64 x2, .string s2] 48)) = W0 at hbx hbk hsz ⊢
  have cc : ∀ j, W0.cell? ⟨w.heap.size, j, none⟩ = #[Value.slice a0 l0.length c0, .int .i64 x0, .string s0, .slice a1 l1.length c1, .int .i64 x1, .string s1, .slice a2 l2.length c2, .int .i64 x2, .string s2][j]? := fun j => cell_of_row _ _ j _ 48 (0, 0) hbk
  have hpl : ∀ i, i < 3 → ∃ a N c l x s, Place3 w w.heap.size i W0 a N c l x s := fun i hi => by
    match i, hi with
    | 0, _ => exact ⟨a0, _, c0, l0, x0, s0, cc 0, cc 1, cc 2, rfl, h0.1, h0.2⟩
    | 1, _ => exact ⟨a1, _, c1, l1, x1, s1, cc 3, cc 4, cc 5, rfl, h1.1, h1.2⟩
    | 2, _ => exact ⟨a2, _, c2, l2, x2, s2, cc 6, cc 7, cc 8, rfl, h2.1, h2.2⟩
  have HP := hide hpl
  have HX := hide (And.intro hbx hT)
  clear hpl cc hbx hbk hT h0 h1 h2
  go_loopw [3] (fun v3 wr => ∃ i : Nat, i ≤ 3 ∧ v3 = .int .i64 i ∧ Hid (Below W0.heap.size W0 wr)) (fun v3 _ => 3 - (intOf v3).toNat)
  case atStart => exact ⟨0, by omega, rfl, hide (Below.refl _ _)⟩
  case round =>
    obtain ⟨i, hi, rfl, HW⟩ := hrel
    by_cases hc : i < 3
    · have z1 : (i : Int) < 3 := by omega
      have zi : (0 : Int) ≤ (i : Int) := by omega
      obtain ⟨a, N, c, l, x, s, hpi⟩ := HP.out i hc
      have HI := hide hpi
      clear hpi
      go_wp2
      go_loopw [4] (fun v4 wz => ∃ k : Nat, k ≤ 3 ∧ v4 = .int .i64 k ∧ Hid (Below W0.heap.size W0 wz)) (fun v4 _ => 3 - (intOf v4).toNat)
      case atStart => exact ⟨0, by omega, rfl, hide HW.out⟩
      case round =>
        clear HW
        obtain ⟨k, hk, rfl, HW⟩ := hrel
        by_cases hk3 : k < 3
        · have z2 : (k : Int) < 3 := by omega
          have zk : (0 : Int) ≤ (k : Int) := by omega
          obtain ⟨b, M, d, m, y, t, hpk⟩ := HP.out k hk3
          have HK := hide hpk
          clear hpk
          go_upto_region 7 with fail
          have hA0 : ∀ (p : Addr) (v : Value), W0.cell? p = some v → wr.cell? p = some v := fun p v hp => (HW.out.cell (World.block_lt_of_cell? _ _ hp)).trans hp
          have hA1 : ∀ (p : Addr) (v : Value) (o1 : Obj), W0.cell? p = some v → (wr.alloc o1).cell? p = some v := fun p v o1 hp => (Below.cell ((Below.refl _ wr).alloc (Nat.le_refl _) o1) (World.block_lt_of_cell? _ _ (hA0 p v hp))).trans (hA0 p v hp)
          have hA2 : ∀ (p : Addr) (v : Value) (o1 o2 : Obj), W0.cell? p = some v → ((wr.alloc o1).alloc o2).cell? p = some v := fun p v o1 o2 hp => (Below.cell (((Below.refl _ wr).alloc (Nat.le_refl _) o1).alloc (by simp) o2) (World.block_lt_of_cell? _ _ (hA0 p v hp))).trans (hA0 p v hp)
          obtain ⟨i1, i2, i3, -⟩ := HI.out
          obtain ⟨k1, k2, k3, -⟩ := HK.out
          have e01 := hA0 _ _ i1
          have e02 := hA0 _ _ i2
          have e03 := hA0 _ _ i3
          have e04 := hA0 _ _ k1
          have e05 := hA0 _ _ k2
          have e06 := hA0 _ _ k3
          have e11 := fun o1 => hA1 _ _ o1 i1
          have e12 := fun o1 => hA1 _ _ o1 i2
          have e13 := fun o1 => hA1 _ _ o1 i3
          have e14 := fun o1 => hA1 _ _ o1 k1
          have e15 := fun o1 => hA1 _ _ o1 k2
          have e16 := fun o1 => hA1 _ _ o1 k3
          have e21 := fun o1 o2 => hA2 _ _ o1 o2 i1
          have e22 := fun o1 o2 => hA2 _ _ o1 o2 i2
          have e23 := fun o1 o2 => hA2 _ _ o1 o2 i3
          have e24 := fun o1 o2 => hA2 _ _ o1 o2 k1
          have e25 := fun o1 o2 => hA2 _ _ o1 o2 k2
          have e26 := fun o1 o2 => hA2 _ _ o1 o2 k3
          clear hA0 hA1 hA2 i1 i2 i3 k1 k2 k3
          go_cut [5, 6] (fun v5 v6 wc => ∃ A B : Nat, v5 = .pointer (some ⟨A, 0, none⟩) ∧ v6 = .pointer (some ⟨B, 0, none⟩) ∧ Hid (PAq wc A a N c x s ∧ PAq wc B b M d y t ∧ Below wr.heap.size wr wc))
          case first =>
            have hn2 : ∀ o1 o2 : Obj, ((wr.alloc o1).alloc o2).drew.heap[wr.heap.size]? = some o1 ∧ ((wr.alloc o1).alloc o2).drew.heap[wr.heap.size + 1]? = some o2 ∧ Below wr.heap.size wr ((wr.alloc o1).alloc o2).drew := fun o1 o2 => by
              obtain ⟨q1, q2⟩ := new2 wr o1 o2
              exact ⟨q1, q2, (((Below.refl _ wr).alloc (Nat.le_refl _) _).alloc (by simp) _).drew⟩
            have HN2 := hide hn2
            clear hn2
            go_region
            all_goals go_wp2
            all_goals go_meet
            all_goals exact ⟨_, _, rfl, rfl, hide ⟨by first | exact (HN2.out _ _).1 | exact (HN2.out _ _).2.1, by first | exact (HN2.out _ _).1 | exact (HN2.out _ _).2.1, (HN2.out _ _).2.2⟩⟩
          case rest =>
            clear e01 e02 e03 e04 e05 e06 e11 e12 e13 e14 e15 e16 e21 e22 e23 e24 e25 e26
            obtain ⟨A, B, rfl, rfl, HC⟩ := hcut
            obtain ⟨pA, pB, hBc⟩ := HC.out
            obtain ⟨-, -, -, eN, ⟨rl, -, -, ln, lz⟩, sz⟩ := HI.out
            obtain ⟨-, -, -, eM, ⟨rm, -, -, -, -⟩, -⟩ := HK.out
            unfold maxLen at lz sz
            have hw0 : Below w.heap.size w wr := HX.out.1.trans (HW.out.mono HX.out.1.size)
            have q1 := fun W => cmp_any s t W
            have q2 := fun W => refCmp_any s t W (by omega)
            have p1 : ∀ W, Below wr.heap.size wr W → Calls Tryd.prog 31 #[.slice a N c, .slice b M d] W fun e w' => e = .returned (.int .i64 (cmpP l m)) ∧ w' = W := fun W hW => by rw [eN, eM]; exact cmpPath_any (rl.below (hw0.trans (hW.mono hw0.size))) (rm.below (hw0.trans (hW.mono hw0.size))) (by omega)
            have p2 : ∀ W, Below wr.heap.size wr W → Calls Tryd.prog 32 #[.slice a N c, .slice b M d] W fun e w' => e = .returned (.int .i64 (cmpP l m)) ∧ ∃ n, w' = W.drewN n := fun W hW => by rw [eN, eM]; exact refCmpPath_any (rl.below (hw0.trans (hW.mono hw0.size))) (rm.below (hw0.trans (hW.mono hw0.size))) (by omega) (fun s hs => by have := lz s hs; omega)
            have k1 : ∀ W, Below wr.heap.size wr W → Calls Tryd.prog 33 #[plv a N c x s, plv b M d y t] W fun e w' => e = .returned (.int .i64 (cmpL l m x y s t)) ∧ Below W.heap.size W w' := fun W hW => by rw [eN, eM]; exact cmpPlace_any x y s t (rl.below (hw0.trans (hW.mono hw0.size))) (rm.below (hw0.trans (hW.mono hw0.size))) (by omega)
            have k2 : ∀ W, Below wr.heap.size wr W → Calls Tryd.prog 34 #[plv a N c x s, plv b M d y t] W fun e w' => e = .returned (.int .i64 (cmpL l m x y s t)) ∧ Below W.heap.size W w' := fun W hW => by rw [eN, eM]; exact refCmpPlace_any x y s t (rl.below (hw0.trans (hW.mono hw0.size))) (rm.below (hw0.trans (hW.mono hw0.size))) (by omega) (fun s hs => by have := lz s hs; omega) (by omega)
            generalize cmpB s t = sab at q1 q2
            generalize cmpP l m = pab at p1 p2
            generalize cmpL l m x y s t = lab at k1 k2
            have hBW : Below wr.heap.size wr wc.drew := hBc.drew
            obtain ⟨u0, u1, u2⟩ := pA.cells
            obtain ⟨u3, u4, u5⟩ := pB.cells
            have hS0 : wc.drew.cell? ⟨A, 0, none⟩ = some (.slice a N c) ∧ wc.drew.cell? ⟨A, 1, none⟩ = some (.int .i64 x) ∧ wc.drew.cell? ⟨A, 2, none⟩ = some (.string s) ∧ wc.drew.cell? ⟨B, 0, none⟩ = some (.slice b M d) ∧ wc.drew.cell? ⟨B, 1, none⟩ = some (.int .i64 y) ∧ wc.drew.cell? ⟨B, 2, none⟩ = some (.string t) := ⟨u0, u1, u2, u3, u4, u5⟩
            clear u0 u1 u2 u3 u4 u5 pA pB HC rl rm eN eM ln lz sz hBc hw0
            go_upto_region 8 with fail
            refine wp_region_held_drew (S := (fun w' => w'.cell? ⟨A, 0, none⟩ = some (.slice a N c) ∧ w'.cell? ⟨A, 1, none⟩ = some (.int .i64 x) ∧ w'.cell? ⟨A, 2, none⟩ = some (.string s) ∧ w'.cell? ⟨B, 0, none⟩ = some (.slice b M d) ∧ w'.cell? ⟨B, 1, none⟩ = some (.int .i64 y) ∧ w'.cell? ⟨B, 2, none⟩ = some (.string t))) (by kernel_rfl) (by exact hS0) (fun hHeld => ?_)
            try dsimp only at hHeld
            refine take_op (i := 0) (d := 21) (OP := Op.fieldAddr 47 (Operand.tmp 5) 2) (T := 0) (v := ?vq1x) rfl rfl rfl rfl (by kernel_rfl) (by kernel_rfl) (by kernel_rfl) (fun _ _ _ h => h) (by rfl) ?hq1x hHeld ?rq1x
            case hq1x => (intro w' hSw; (try dsimp only at hSw); go_simp <;> with_reducible rfl)
            try simp only [Act.put, List.setIfInBounds_toArray, List.set_cons_zero, List.set_cons_succ]
            refine take_op (i := 1) (d := 22) (OP := Op.load 9 (Operand.tmp 21)) (T := 9) (v := ?vq2x) rfl rfl rfl rfl (by kernel_rfl) (by kernel_rfl) (by kernel_rfl) (fun _ _ _ h => h) (by rfl) ?hq2x hHeld ?rq2x
            case hq2x => (intro w' hSw; (try dsimp only at hSw); go_simp <;> with_reducible rfl)
            try simp only [Act.put, List.setIfInBounds_toArray, List.set_cons_zero, List.set_cons_succ]
            refine take_op (i := 2) (d := 23) (OP := Op.fieldAddr 47 (Operand.tmp 6) 2) (T := 0) (v := ?vq3x) rfl rfl rfl rfl (by kernel_rfl) (by kernel_rfl) (by kernel_rfl) (fun _ _ _ h => h) (by rfl) ?hq3x hHeld ?rq3x
            case hq3x => (intro w' hSw; (try dsimp only at hSw); go_simp <;> with_reducible rfl)
            try simp only [Act.put, List.setIfInBounds_toArray, List.set_cons_zero, List.set_cons_succ]
            refine take_op (i := 3) (d := 24) (OP := Op.load 9 (Operand.tmp 23)) (T := 9) (v := ?vq4x) rfl rfl rfl rfl (by kernel_rfl) (by kernel_rfl) (by kernel_rfl) (fun _ _ _ h => h) (by rfl) ?hq4x hHeld ?rq4x
            case hq4x => (intro w' hSw; (try dsimp only at hSw); go_simp <;> with_reducible rfl)
            try simp only [Act.put, List.setIfInBounds_toArray, List.set_cons_zero, List.set_cons_succ]
            refine take_op (i := 5) (d := 26) (OP := Op.fieldAddr 47 (Operand.tmp 5) 2) (T := 0) (v := ?vq5x) rfl rfl rfl rfl (by kernel_rfl) (by kernel_rfl) (by kernel_rfl) (fun _ _ _ h => h) (by rfl) ?hq5x hHeld ?rq5x
            case hq5x => (intro w' hSw; (try dsimp only at hSw); go_simp <;> with_reducible rfl)
            try simp only [Act.put, List.setIfInBounds_toArray, List.set_cons_zero, List.set_cons_succ]
            refine take_op (i := 6) (d := 27) (OP := Op.load 9 (Operand.tmp 26)) (T := 9) (v := ?vq6x) rfl rfl rfl rfl (by kernel_rfl) (by kernel_rfl) (by kernel_rfl) (fun _ _ _ h => h) (by rfl) ?hq6x hHeld ?rq6x
            case hq6x => (intro w' hSw; (try dsimp only at hSw); go_simp <;> with_reducible rfl)
            try simp only [Act.put, List.setIfInBounds_toArray, List.set_cons_zero, List.set_cons_succ]
            refine take_op (i := 7) (d := 28) (OP := Op.fieldAddr 47 (Operand.tmp 6) 2) (T := 0) (v := ?vq7x) rfl rfl rfl rfl (by kernel_rfl) (by kernel_rfl) (by kernel_rfl) (fun _ _ _ h => h) (by rfl) ?hq7x hHeld ?rq7x
            case hq7x => (intro w' hSw; (try dsimp only at hSw); go_simp <;> with_reducible rfl)
            try simp only [Act.put, List.setIfInBounds_toArray, List.set_cons_zero, List.set_cons_succ]
            refine take_op (i := 8) (d := 29) (OP := Op.load 9 (Operand.tmp 28)) (T := 9) (v := ?vq8x) rfl rfl rfl rfl (by kernel_rfl) (by kernel_rfl) (by kernel_rfl) (fun _ _ _ h => h) (by rfl) ?hq8x hHeld ?rq8x
            case hq8x => (intro w' hSw; (try dsimp only at hSw); go_simp <;> with_reducible rfl)
            try simp only [Act.put, List.setIfInBounds_toArray, List.set_cons_zero, List.set_cons_succ]
            refine call_op (i := 4) (d := 25) (OP := Op.call { callee := Callee.value (Operand.func 29), args := #[Operand.tmp 22, Operand.tmp 24], argTypes := #[9, 9] }) (T := 3) (f := 29) (args := #[.string s, .string t]) rfl rfl rfl rfl (by kernel_rfl) (by rfl) (by go_simp) ?_
            refine (q1 _).mono ?_
            rintro e w1x ⟨rfl, hw1⟩
            subst hw1
            refine ⟨_, rfl, hHeld, ?_⟩
            replace hHeld := hHeld
            try simp only [Act.put, List.setIfInBounds_toArray, List.set_cons_zero, List.set_cons_succ]
            refine call_op (i := 9) (d := 30) (OP := Op.call { callee := Callee.value (Operand.func 30), args := #[Operand.tmp 27, Operand.tmp 29], argTypes := #[9, 9] }) (T := 3) (f := 30) (args := #[.string s, .string t]) rfl rfl rfl rfl (by kernel_rfl) (by rfl) (by go_simp) ?_
            refine (q2 _).mono ?_
            rintro e w2x ⟨rfl, n2, hw2⟩
            have hS2x : w2x.cell? ⟨A, 0, none⟩ = some (.slice a N c) ∧ w2x.cell? ⟨A, 1, none⟩ = some (.int .i64 x) ∧ w2x.cell? ⟨A, 2, none⟩ = some (.string s) ∧ w2x.cell? ⟨B, 0, none⟩ = some (.slice b M d) ∧ w2x.cell? ⟨B, 1, none⟩ = some (.int .i64 y) ∧ w2x.cell? ⟨B, 2, none⟩ = some (.string t) := by rw [hw2]; exact hHeld
            replace hBW := by have := below_dr hBW n2; rw [← hw2] at this; exact this
            clear hw2
            refine ⟨_, rfl, hS2x, ?_⟩
            replace hHeld := hS2x
            try simp only [Act.put, List.setIfInBounds_toArray, List.set_cons_zero, List.set_cons_succ]
            refine take_op (i := 10) (d := 31) (OP := Op.binOp BinOp.neq 3 (Operand.tmp 25) (Operand.tmp 30) 3) (T := 4) (v := ?vq11x) rfl rfl rfl rfl (by kernel_rfl) (by kernel_rfl) (by kernel_rfl) (fun _ _ _ h => h) (by rfl) ?hq11x hHeld ?rq11x
            case hq11x => (intro w' hSw; (try dsimp only at hSw); go_simp <;> with_reducible rfl)
            try simp only [Act.put, List.setIfInBounds_toArray, List.set_cons_zero, List.set_cons_succ]
            refine take_op (i := 11) (d := 32) (OP := Op.move (Operand.tmp 31)) (T := 4) (v := ?vq12x) rfl rfl rfl rfl (by kernel_rfl) (by kernel_rfl) (by kernel_rfl) (fun _ _ _ h => h) (by rfl) ?hq12x hHeld ?rq12x
            case hq12x => (intro w' hSw; (try dsimp only at hSw); go_simp <;> with_reducible rfl)
            try simp only [Act.put, List.setIfInBounds_toArray, List.set_cons_zero, List.set_cons_succ]
            refine take_op (i := 12) (d := 33) (OP := Op.fieldAddr 47 (Operand.tmp 5) 0) (T := 0) (v := ?vq13x) rfl rfl rfl rfl (by kernel_rfl) (by kernel_rfl) (by kernel_rfl) (fun _ _ _ h => h) (by rfl) ?hq13x hHeld ?rq13x
            case hq13x => (intro w' hSw; (try dsimp only at hSw); go_simp <;> with_reducible rfl)
            try simp only [Act.put, List.setIfInBounds_toArray, List.set_cons_zero, List.set_cons_succ]
            refine take_op (i := 13) (d := 34) (OP := Op.load 23 (Operand.tmp 33)) (T := 23) (v := ?vq14x) rfl rfl rfl rfl (by kernel_rfl) (by kernel_rfl) (by kernel_rfl) (fun _ _ _ h => h) (by rfl) ?hq14x hHeld ?rq14x
            case hq14x => (intro w' hSw; (try dsimp only at hSw); go_simp <;> with_reducible rfl)
            try simp only [Act.put, List.setIfInBounds_toArray, List.set_cons_zero, List.set_cons_succ]
            refine take_op (i := 14) (d := 35) (OP := Op.fieldAddr 47 (Operand.tmp 6) 0) (T := 0) (v := ?vq15x) rfl rfl rfl rfl (by kernel_rfl) (by kernel_rfl) (by kernel_rfl) (fun _ _ _ h => h) (by rfl) ?hq15x hHeld ?rq15x
            case hq15x => (intro w' hSw; (try dsimp only at hSw); go_simp <;> with_reducible rfl)
            try simp only [Act.put, List.setIfInBounds_toArray, List.set_cons_zero, List.set_cons_succ]
            refine take_op (i := 15) (d := 36) (OP := Op.load 23 (Operand.tmp 35)) (T := 23) (v := ?vq16x) rfl rfl rfl rfl (by kernel_rfl) (by kernel_rfl) (by kernel_rfl) (fun _ _ _ h => h) (by rfl) ?hq16x hHeld ?rq16x
            case hq16x => (intro w' hSw; (try dsimp only at hSw); go_simp <;> with_reducible rfl)
            try simp only [Act.put, List.setIfInBounds_toArray, List.set_cons_zero, List.set_cons_succ]
            refine take_op (i := 17) (d := 38) (OP := Op.fieldAddr 47 (Operand.tmp 5) 0) (T := 0) (v := ?vq17x) rfl rfl rfl rfl (by kernel_rfl) (by kernel_rfl) (by kernel_rfl) (fun _ _ _ h => h) (by rfl) ?hq17x hHeld ?rq17x
            case hq17x => (intro w' hSw; (try dsimp only at hSw); go_simp <;> with_reducible rfl)
            try simp only [Act.put, List.setIfInBounds_toArray, List.set_cons_zero, List.set_cons_succ]
            refine take_op (i := 18) (d := 39) (OP := Op.load 23 (Operand.tmp 38)) (T := 23) (v := ?vq18x) rfl rfl rfl rfl (by kernel_rfl) (by kernel_rfl) (by kernel_rfl) (fun _ _ _ h => h) (by rfl) ?hq18x hHeld ?rq18x
            case hq18x => (intro w' hSw; (try dsimp only at hSw); go_simp <;> with_reducible rfl)
            try simp only [Act.put, List.setIfInBounds_toArray, List.set_cons_zero, List.set_cons_succ]
            refine take_op (i := 19) (d := 40) (OP := Op.fieldAddr 47 (Operand.tmp 6) 0) (T := 0) (v := ?vq19x) rfl rfl rfl rfl (by kernel_rfl) (by kernel_rfl) (by kernel_rfl) (fun _ _ _ h => h) (by rfl) ?hq19x hHeld ?rq19x
            case hq19x => (intro w' hSw; (try dsimp only at hSw); go_simp <;> with_reducible rfl)
            try simp only [Act.put, List.setIfInBounds_toArray, List.set_cons_zero, List.set_cons_succ]
            refine take_op (i := 20) (d := 41) (OP := Op.load 23 (Operand.tmp 40)) (T := 23) (v := ?vq20x) rfl rfl rfl rfl (by kernel_rfl) (by kernel_rfl) (by kernel_rfl) (fun _ _ _ h => h) (by rfl) ?hq20x hHeld ?rq20x
            case hq20x => (intro w' hSw; (try dsimp only at hSw); go_simp <;> with_reducible rfl)
            try simp only [Act.put, List.setIfInBounds_toArray, List.set_cons_zero, List.set_cons_succ]
            refine call_op (i := 16) (d := 37) (OP := Op.call { callee := Callee.value (Operand.func 31), args := #[Operand.tmp 34, Operand.tmp 36], argTypes := #[23, 23] }) (T := 3) (f := 31) (args := #[.slice a N c, .slice b M d]) rfl rfl rfl rfl (by kernel_rfl) (by rfl) (by go_simp) ?_
            refine (p1 _ hBW).mono ?_
            rintro e w3x ⟨rfl, hw3⟩
            subst hw3
            refine ⟨_, rfl, hHeld, ?_⟩
            replace hHeld := hHeld
            try simp only [Act.put, List.setIfInBounds_toArray, List.set_cons_zero, List.set_cons_succ]
            refine call_op (i := 21) (d := 42) (OP := Op.call { callee := Callee.value (Operand.func 32), args := #[Operand.tmp 39, Operand.tmp 41], argTypes := #[23, 23] }) (T := 3) (f := 32) (args := #[.slice a N c, .slice b M d]) rfl rfl rfl rfl (by kernel_rfl) (by rfl) (by go_simp) ?_
            refine (p2 _ hBW).mono ?_
            rintro e w4x ⟨rfl, n4, hw4⟩
            have hS4x : w4x.cell? ⟨A, 0, none⟩ = some (.slice a N c) ∧ w4x.cell? ⟨A, 1, none⟩ = some (.int .i64 x) ∧ w4x.cell? ⟨A, 2, none⟩ = some (.string s) ∧ w4x.cell? ⟨B, 0, none⟩ = some (.slice b M d) ∧ w4x.cell? ⟨B, 1, none⟩ = some (.int .i64 y) ∧ w4x.cell? ⟨B, 2, none⟩ = some (.string t) := by rw [hw4]; exact hHeld
            replace hBW := by have := below_dr hBW n4; rw [← hw4] at this; exact this
            clear hw4
            refine ⟨_, rfl, hS4x, ?_⟩
            replace hHeld := hS4x
            try simp only [Act.put, List.setIfInBounds_toArray, List.set_cons_zero, List.set_cons_succ]
            refine take_op (i := 22) (d := 43) (OP := Op.binOp BinOp.neq 3 (Operand.tmp 37) (Operand.tmp 42) 3) (T := 4) (v := ?vq23x) rfl rfl rfl rfl (by kernel_rfl) (by kernel_rfl) (by kernel_rfl) (fun _ _ _ h => h) (by rfl) ?hq23x hHeld ?rq23x
            case hq23x => (intro w' hSw; (try dsimp only at hSw); go_simp <;> with_reducible rfl)
            try simp only [Act.put, List.setIfInBounds_toArray, List.set_cons_zero, List.set_cons_succ]
            refine take_op (i := 23) (d := 44) (OP := Op.pick (Operand.tmp 32) (Operand.const (Value.bool true)) (Operand.tmp 43)) (T := 4) (v := ?vq24x) rfl rfl rfl rfl (by kernel_rfl) (by kernel_rfl) (by kernel_rfl) (fun _ _ _ h => h) (by rfl) ?hq24x hHeld ?rq24x
            case hq24x => (intro w' hSw; (try dsimp only at hSw); go_simp <;> with_reducible rfl)
            try simp only [Act.put, List.setIfInBounds_toArray, List.set_cons_zero, List.set_cons_succ]
            refine take_op (i := 24) (d := 45) (OP := Op.move (Operand.tmp 44)) (T := 4) (v := ?vq25x) rfl rfl rfl rfl (by kernel_rfl) (by kernel_rfl) (by kernel_rfl) (fun _ _ _ h => h) (by rfl) ?hq25x hHeld ?rq25x
            case hq25x => (intro w' hSw; (try dsimp only at hSw); go_simp <;> with_reducible rfl)
            try simp only [Act.put, List.setIfInBounds_toArray, List.set_cons_zero, List.set_cons_succ]
            refine take_op (i := 25) (d := 46) (OP := Op.load 47 (Operand.tmp 5)) (T := 47) (v := ?vq26x) rfl rfl rfl rfl (by kernel_rfl) (by kernel_rfl) (by kernel_rfl) (fun _ _ _ h => h) (by rfl) ?hq26x hHeld ?rq26x
            case hq26x => (intro w' hSw; (try dsimp only at hSw); go_simp <;> with_reducible rfl)
            try simp only [Act.put, List.setIfInBounds_toArray, List.set_cons_zero, List.set_cons_succ]
            refine take_op (i := 26) (d := 47) (OP := Op.load 47 (Operand.tmp 6)) (T := 47) (v := ?vq27x) rfl rfl rfl rfl (by kernel_rfl) (by kernel_rfl) (by kernel_rfl) (fun _ _ _ h => h) (by rfl) ?hq27x hHeld ?rq27x
            case hq27x => (intro w' hSw; (try dsimp only at hSw); go_simp <;> with_reducible rfl)
            try simp only [Act.put, List.setIfInBounds_toArray, List.set_cons_zero, List.set_cons_succ]
            refine take_op (i := 28) (d := 49) (OP := Op.load 47 (Operand.tmp 5)) (T := 47) (v := ?vq28x) rfl rfl rfl rfl (by kernel_rfl) (by kernel_rfl) (by kernel_rfl) (fun _ _ _ h => h) (by rfl) ?hq28x hHeld ?rq28x
            case hq28x => (intro w' hSw; (try dsimp only at hSw); go_simp <;> with_reducible rfl)
            try simp only [Act.put, List.setIfInBounds_toArray, List.set_cons_zero, List.set_cons_succ]
            refine take_op (i := 29) (d := 50) (OP := Op.load 47 (Operand.tmp 6)) (T := 47) (v := ?vq29x) rfl rfl rfl rfl (by kernel_rfl) (by kernel_rfl) (by kernel_rfl) (fun _ _ _ h => h) (by rfl) ?hq29x hHeld ?rq29x
            case hq29x => (intro w' hSw; (try dsimp only at hSw); go_simp <;> with_reducible rfl)
            try simp only [Act.put, List.setIfInBounds_toArray, List.set_cons_zero, List.set_cons_succ]
            refine call_op (i := 27) (d := 48) (OP := Op.call { callee := Callee.value (Operand.func 33), args := #[Operand.tmp 46, Operand.tmp 47], argTypes := #[47, 47] }) (T := 3) (f := 33) (args := #[plv a N c x s, plv b M d y t]) rfl rfl rfl rfl (by kernel_rfl) (by rfl) (by go_simp) ?_
            refine (k1 _ hBW).mono ?_
            rintro e w5x ⟨rfl, bb⟩
            have hS5x : w5x.cell? ⟨A, 0, none⟩ = some (.slice a N c) ∧ w5x.cell? ⟨A, 1, none⟩ = some (.int .i64 x) ∧ w5x.cell? ⟨A, 2, none⟩ = some (.string s) ∧ w5x.cell? ⟨B, 0, none⟩ = some (.slice b M d) ∧ w5x.cell? ⟨B, 1, none⟩ = some (.int .i64 y) ∧ w5x.cell? ⟨B, 2, none⟩ = some (.string t) := ⟨(bb.cell (World.block_lt_of_cell? _ _ hHeld.1)).trans hHeld.1, (bb.cell (World.block_lt_of_cell? _ _ hHeld.2.1)).trans hHeld.2.1, (bb.cell (World.block_lt_of_cell? _ _ hHeld.2.2.1)).trans hHeld.2.2.1, (bb.cell (World.block_lt_of_cell? _ _ hHeld.2.2.2.1)).trans hHeld.2.2.2.1, (bb.cell (World.block_lt_of_cell? _ _ hHeld.2.2.2.2.1)).trans hHeld.2.2.2.2.1, (bb.cell (World.block_lt_of_cell? _ _ hHeld.2.2.2.2.2)).trans hHeld.2.2.2.2.2⟩
            replace hBW := hBW.trans (bb.mono hBW.size)
            clear bb
            refine ⟨_, rfl, hS5x, ?_⟩
            replace hHeld := hS5x
            try simp only [Act.put, List.setIfInBounds_toArray, List.set_cons_zero, List.set_cons_succ]
            refine call_op (i := 30) (d := 51) (OP := Op.call { callee := Callee.value (Operand.func 34), args := #[Operand.tmp 49, Operand.tmp 50], argTypes := #[47, 47] }) (T := 3) (f := 34) (args := #[plv a N c x s, plv b M d y t]) rfl rfl rfl rfl (by kernel_rfl) (by rfl) (by go_simp) ?_
            refine (k2 _ hBW).mono ?_
            rintro e w6x ⟨rfl, bb⟩
            have hS6x : w6x.cell? ⟨A, 0, none⟩ = some (.slice a N c) ∧ w6x.cell? ⟨A, 1, none⟩ = some (.int .i64 x) ∧ w6x.cell? ⟨A, 2, none⟩ = some (.string s) ∧ w6x.cell? ⟨B, 0, none⟩ = some (.slice b M d) ∧ w6x.cell? ⟨B, 1, none⟩ = some (.int .i64 y) ∧ w6x.cell? ⟨B, 2, none⟩ = some (.string t) := ⟨(bb.cell (World.block_lt_of_cell? _ _ hHeld.1)).trans hHeld.1, (bb.cell (World.block_lt_of_cell? _ _ hHeld.2.1)).trans hHeld.2.1, (bb.cell (World.block_lt_of_cell? _ _ hHeld.2.2.1)).trans hHeld.2.2.1, (bb.cell (World.block_lt_of_cell? _ _ hHeld.2.2.2.1)).trans hHeld.2.2.2.1, (bb.cell (World.block_lt_of_cell? _ _ hHeld.2.2.2.2.1)).trans hHeld.2.2.2.2.1, (bb.cell (World.block_lt_of_cell? _ _ hHeld.2.2.2.2.2)).trans hHeld.2.2.2.2.2⟩
            replace hBW := hBW.trans (bb.mono hBW.size)
            clear bb
            refine ⟨_, rfl, hS6x, ?_⟩
            replace hHeld := hS6x
            try simp only [Act.put, List.setIfInBounds_toArray, List.set_cons_zero, List.set_cons_succ]
            refine take_op (i := 31) (d := 52) (OP := Op.binOp BinOp.neq 3 (Operand.tmp 48) (Operand.tmp 51) 3) (T := 4) (v := ?vq32x) rfl rfl rfl rfl (by kernel_rfl) (by kernel_rfl) (by kernel_rfl) (fun _ _ _ h => h) (by rfl) ?hq32x hHeld ?rq32x
            case hq32x => (intro w' hSw; (try dsimp only at hSw); go_simp <;> with_reducible rfl)
            try simp only [Act.put, List.setIfInBounds_toArray, List.set_cons_zero, List.set_cons_succ]
            refine take_op (i := 32) (d := 53) (OP := Op.pick (Operand.tmp 45) (Operand.const (Value.bool true)) (Operand.tmp 52)) (T := 4) (v := ?vq33x) rfl rfl rfl rfl (by kernel_rfl) (by kernel_rfl) (by kernel_rfl) (fun _ _ _ h => h) (by rfl) ?hq33x hHeld ?rq33x
            case hq33x => (intro w' hSw; (try dsimp only at hSw); go_simp <;> with_reducible rfl)
            try simp only [Act.put, List.setIfInBounds_toArray, List.set_cons_zero, List.set_cons_succ]
            refine wpAnyH_done (by kernel_rfl) ?_ _
            go_wp2
            go_roundw
            case rel => exact ⟨k + 1, by omega, by go_num, hide (HW.out.trans (hBW.mono HW.out.size))⟩
            case measure => simp [intOf]; omega
        · have z2 : ¬ (k : Int) < 3 := by omega
          obtain ⟨i1, i2, i3, eN, ⟨rl, lc, lnn, ln, lz⟩, sz⟩ := HI.out
          have hw0 : Below w.heap.size w wr := HX.out.1.trans (HW.out.mono HX.out.1.size)
          have g1 : ∀ W, Below wr.heap.size wr W → Calls Tryd.prog 35 #[plv a N c x s] W fun e w' => e = .returned (.bool (placeB l x s)) ∧ Below W.heap.size W w' := fun W hW => by rw [eN]; exact place_any x s (rl.below (hw0.trans (hW.mono hw0.size))) lc lnn (Tabs.below HX.out.2 (hw0.trans (hW.mono hw0.size))) (by omega)
          have g2 : ∀ W, Below wr.heap.size wr W → Calls Tryd.prog 36 #[plv a N c x s] W fun e w' => e = .returned (.bool (placeB l x s)) ∧ Below W.heap.size W w' := fun W hW => by rw [eN]; exact refPlace_any x s (rl.below (hw0.trans (hW.mono hw0.size)))
          generalize placeB l x s = pb at g1 g2
          have hBW : Below wr.heap.size wr wr.drew := (Below.refl _ wr).drew
          have hS1 : wr.drew.cell? ⟨w.heap.size, i * 3, none⟩ = some (.slice a N c) ∧ wr.drew.cell? ⟨w.heap.size, i * 3 + 1, none⟩ = some (.int .i64 x) ∧ wr.drew.cell? ⟨w.heap.size, i * 3 + 2, none⟩ = some (.string s) := ⟨(HW.out.cell (World.block_lt_of_cell? _ _ i1)).trans i1, (HW.out.cell (World.block_lt_of_cell? _ _ i2)).trans i2, (HW.out.cell (World.block_lt_of_cell? _ _ i3)).trans i3⟩
          clear i1 i2 i3 eN rl lc lnn ln lz sz hw0
          go_upto_region 10 with fail
          refine wp_region_held_drew (S := (fun w' => w'.cell? ⟨w.heap.size, i * 3, none⟩ = some (.slice a N c) ∧ w'.cell? ⟨w.heap.size, i * 3 + 1, none⟩ = some (.int .i64 x) ∧ w'.cell? ⟨w.heap.size, i * 3 + 2, none⟩ = some (.string s))) (by kernel_rfl) (by exact hS1) (fun hHeld => ?_)
          try dsimp only at hHeld
          refine take_op (i := 0) (d := 54) (OP := Op.move (Operand.tmp 3)) (T := 3) (v := ?vq34x) rfl rfl rfl rfl (by kernel_rfl) (by kernel_rfl) (by kernel_rfl) (fun _ _ _ h => h) (by rfl) ?hq34x hHeld ?rq34x
          case hq34x => (intro w' hSw; (try dsimp only at hSw); go_simp <;> with_reducible rfl)
          try simp only [Act.put, List.setIfInBounds_toArray, List.set_cons_zero, List.set_cons_succ]
          refine take_op (i := 1) (d := 55) (OP := Op.indexAddr 48 (Operand.tmp 1) (Operand.tmp 54)) (T := 0) (v := ?vq35x) rfl rfl rfl rfl (by kernel_rfl) (by kernel_rfl) (by kernel_rfl) (fun _ _ _ h => h) (by rfl) ?hq35x hHeld ?rq35x
          case hq35x => (intro w' hSw; (try dsimp only at hSw); go_simp <;> with_reducible rfl)
          try simp only [Act.put, List.setIfInBounds_toArray, List.set_cons_zero, List.set_cons_succ]
          refine take_op (i := 2) (d := 56) (OP := Op.load 47 (Operand.tmp 55)) (T := 47) (v := ?vq36x) rfl rfl rfl rfl (by kernel_rfl) (by kernel_rfl) (by kernel_rfl) (fun _ _ _ h => h) (by rfl) ?hq36x hHeld ?rq36x
          case hq36x => (intro w' hSw; (try dsimp only at hSw); go_simp <;> with_reducible rfl)
          try simp only [Act.put, List.setIfInBounds_toArray, List.set_cons_zero, List.set_cons_succ]
          refine take_op (i := 4) (d := 58) (OP := Op.move (Operand.tmp 3)) (T := 3) (v := ?vq37x) rfl rfl rfl rfl (by kernel_rfl) (by kernel_rfl) (by kernel_rfl) (fun _ _ _ h => h) (by rfl) ?hq37x hHeld ?rq37x
          case hq37x => (intro w' hSw; (try dsimp only at hSw); go_simp <;> with_reducible rfl)
          try simp only [Act.put, List.setIfInBounds_toArray, List.set_cons_zero, List.set_cons_succ]
          refine take_op (i := 5) (d := 59) (OP := Op.indexAddr 48 (Operand.tmp 1) (Operand.tmp 58)) (T := 0) (v := ?vq38x) rfl rfl rfl rfl (by kernel_rfl) (by kernel_rfl) (by kernel_rfl) (fun _ _ _ h => h) (by rfl) ?hq38x hHeld ?rq38x
          case hq38x => (intro w' hSw; (try dsimp only at hSw); go_simp <;> with_reducible rfl)
          try simp only [Act.put, List.setIfInBounds_toArray, List.set_cons_zero, List.set_cons_succ]
          refine take_op (i := 6) (d := 60) (OP := Op.load 47 (Operand.tmp 59)) (T := 47) (v := ?vq39x) rfl rfl rfl rfl (by kernel_rfl) (by kernel_rfl) (by kernel_rfl) (fun _ _ _ h => h) (by rfl) ?hq39x hHeld ?rq39x
          case hq39x => (intro w' hSw; (try dsimp only at hSw); go_simp <;> with_reducible rfl)
          try simp only [Act.put, List.setIfInBounds_toArray, List.set_cons_zero, List.set_cons_succ]
          refine call_op (i := 3) (d := 57) (OP := Op.call { callee := Callee.value (Operand.func 35), args := #[Operand.tmp 56], argTypes := #[47] }) (T := 4) (f := 35) (args := #[plv a N c x s]) rfl rfl rfl rfl (by kernel_rfl) (by rfl) (by go_simp) ?_
          refine (g1 _ hBW).mono ?_
          rintro e w7x ⟨rfl, bb⟩
          have hS7x : w7x.cell? ⟨w.heap.size, i * 3, none⟩ = some (.slice a N c) ∧ w7x.cell? ⟨w.heap.size, i * 3 + 1, none⟩ = some (.int .i64 x) ∧ w7x.cell? ⟨w.heap.size, i * 3 + 2, none⟩ = some (.string s) := ⟨(bb.cell (World.block_lt_of_cell? _ _ hHeld.1)).trans hHeld.1, (bb.cell (World.block_lt_of_cell? _ _ hHeld.2.1)).trans hHeld.2.1, (bb.cell (World.block_lt_of_cell? _ _ hHeld.2.2)).trans hHeld.2.2⟩
          replace hBW := hBW.trans (bb.mono hBW.size)
          clear bb
          refine ⟨_, rfl, hS7x, ?_⟩
          replace hHeld := hS7x
          try simp only [Act.put, List.setIfInBounds_toArray, List.set_cons_zero, List.set_cons_succ]
          refine call_op (i := 7) (d := 61) (OP := Op.call { callee := Callee.value (Operand.func 36), args := #[Operand.tmp 60], argTypes := #[47] }) (T := 4) (f := 36) (args := #[plv a N c x s]) rfl rfl rfl rfl (by kernel_rfl) (by rfl) (by go_simp) ?_
          refine (g2 _ hBW).mono ?_
          rintro e w8x ⟨rfl, bb⟩
          have hS8x : w8x.cell? ⟨w.heap.size, i * 3, none⟩ = some (.slice a N c) ∧ w8x.cell? ⟨w.heap.size, i * 3 + 1, none⟩ = some (.int .i64 x) ∧ w8x.cell? ⟨w.heap.size, i * 3 + 2, none⟩ = some (.string s) := ⟨(bb.cell (World.block_lt_of_cell? _ _ hHeld.1)).trans hHeld.1, (bb.cell (World.block_lt_of_cell? _ _ hHeld.2.1)).trans hHeld.2.1, (bb.cell (World.block_lt_of_cell? _ _ hHeld.2.2)).trans hHeld.2.2⟩
          replace hBW := hBW.trans (bb.mono hBW.size)
          clear bb
          refine ⟨_, rfl, hS8x, ?_⟩
          replace hHeld := hS8x
          try simp only [Act.put, List.setIfInBounds_toArray, List.set_cons_zero, List.set_cons_succ]
          refine take_op (i := 8) (d := 62) (OP := Op.binOp BinOp.neq 4 (Operand.tmp 57) (Operand.tmp 61) 4) (T := 4) (v := ?vq42x) rfl rfl rfl rfl (by kernel_rfl) (by kernel_rfl) (by kernel_rfl) (fun _ _ _ h => h) (by rfl) ?hq42x hHeld ?rq42x
          case hq42x => (intro w' hSw; (try dsimp only at hSw); go_simp <;> with_reducible rfl)
          try simp only [Act.put, List.setIfInBounds_toArray, List.set_cons_zero, List.set_cons_succ]
          refine wpAnyH_done (by kernel_rfl) ?_ _
          go_wp2
          go_roundw
          case rel => exact ⟨i + 1, by omega, by go_num, hide (HW.out.trans (hBW.mono HW.out.size))⟩
          case measure => simp [intOf]; omega
    · have z1 : ¬ (i : Int) < 3 := by omega
      have hw0 : Below w.heap.size w wr := HX.out.1.trans (HW.out.mono HX.out.1.size)
      have hkn := known_any wr (Tabs.below HX.out.2 hw0)
      go_wp2_with (go_at_call 7; refine hkn.mono ?_; rintro e w9 ⟨rfl, b9⟩)
      go_ret
      exact ⟨rfl, hw0.trans (b9.mono hw0.size)⟩
end Go.Proofs.YtcpigbojebjlaaaDoor
