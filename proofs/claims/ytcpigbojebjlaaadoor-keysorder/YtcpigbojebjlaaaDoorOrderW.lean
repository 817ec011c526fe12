/-
  THE WALK over the statement KeysOrder.
-/
import Derived.Test.YtcpigbojebjlaaaDoorOrderM2
import Derived.Test.YtcpigbojebjlaaaDoorKnown
import Derived.Deep.DeepCutAuto
import Derived.Deep.CutBlock
namespace Go.Proofs.YtcpigbojebjlaaaDoor
open Go.RowKit Go.Shelf
set_option linter.unusedSimpArgs false

/-- A place in a block of its own. -/
def PAt (w : World) (A : Nat) (a : Option Addr) (n c : Nat) (x : Int) (s : ByteArray) : Prop := w.heap[A]? = some (.cells #[.slice a n c, .int .i64 x, .string s] 47 (0, 0))
theorem PAt.cells {w : World} {A : Nat} {a : Option Addr} {n c : Nat} {x : Int} {s : ByteArray} (h : PAt w A a n c x s) : w.cell? ⟨A, 0, none⟩ = some (.slice a n c) ∧ w.cell? ⟨A, 1, none⟩ = some (.int .i64 x) ∧ w.cell? ⟨A, 2, none⟩ = some (.string s) := by
  obtain ⟨h1, h2, h3, _⟩ := blk3 h
  exact ⟨h1, h2, h3⟩
theorem PAt.below {w w' : World} {A : Nat} {a : Option Addr} {n c : Nat} {x : Int} {s : ByteArray} (h : PAt w A a n c x s) (k : Below w.heap.size w w') : PAt w' A a n c x s := (k.block A (Array.getElem?_eq_some_iff.1 h).1).trans h

set_option maxHeartbeats 4000000 in
set_option maxRecDepth 100000 in
theorem order_walk {w : World} {a0 a1 a2 : Option Addr} {c0 c1 c2 : Nat} {l0 l1 l2 : List ByteArray} (x0 x1 x2 : Int) (s0 s1 s2 : ByteArray) (h0 : Rs w a0 l0) (h1 : Rs w a1 l1) (h2 : Rs w a2 l2)
    (hc0 : l0.length ≤ c0) (hc1 : l1.length ≤ c1) (n0 : a0 = none → c0 = 0) (n1 : a1 = none → c1 = 0) (z0 : l0.length ≤ 8796093021952) (z1 : l1.length ≤ 8796093021952) (_z2 : l2.length ≤ 8796093021952) (hT : Tabs w) :
    Calls Tryd.prog 6 #[.agg #[.slice a0 l0.length c0, .int .i64 x0, .string s0, .slice a1 l1.length c1, .int .i64 x1, .string s1, .slice a2 l2.length c2, .int .i64 x2, .string s2]] w fun e w' => e = .returned (.bool true) ∧ Below w.heap.size w w' := by
  obtain ⟨N0, hN0⟩ : ∃ N0, N0 = l0.length := ⟨_, rfl⟩
  obtain ⟨N1, hN1⟩ : ∃ N1, N1 = l1.length := ⟨_, rfl⟩
  obtain ⟨N2, hN2⟩ : ∃ N2, N2 = l2.length := ⟨_, rfl⟩
  rw [← hN0, ← hN1, ← hN2]
  have hbx : Below w.heap.size w (w.alloc (.cells #[.slice a0 N0 c0, .int .i64 x0, .string s0, .slice a1 N1 c1, .int .i64 x1, .string s1, .slice a2 N2 c2, .int .i64 x2, .string s2] 48)) := (Below.refl _ w).alloc (Nat.le_refl _) _
  have hbk := heap_alloc_new w (.cells #[.slice a0 N0 c0, .int .i64 x0, .string s0, .slice a1 N1 c1, .int .i64 x1, .string s1, .slice a2 N2 c2, .int .i64 x2, .string s2] 48)
  have hkn := known_any _ (Tabs.below hT hbx)
  have HN := hide (And.intro hN0 (And.intro hN1 hN2))
  have HR := hide (And.intro h0 (And.intro h1 h2))
  clear hN0 hN1 hN2 h0 h1 h2
  go_enter Tryd.func6, Tryd.ntmps6
  go_upto_region 3 with (go_at_call 7; refine hkn.mono ?_; rintro e w1 ⟨rfl, b1⟩)
  have hb1 : Below w.heap.size w w1 := hbx.trans (b1.mono hbx.size)
  have hbk1 := (b1.block _ (Array.getElem?_eq_some_iff.1 hbk).1).trans hbk
  have cc : ∀ j, w1.cell? ⟨w.heap.size, j, none⟩ = #[Value.slice a0 N0 c0, .int .i64 x0, .string s0, .slice a1 N1 c1, .int .i64 x1, .string s1, .slice a2 N2 c2, .int .i64 x2, .string s2][j]? := fun j => cell_of_row _ _ j _ 48 (0, 0) hbk1
  have cc0 : w1.cell? ⟨w.heap.size, 0, none⟩ = some (.slice a0 N0 c0) := cc 0
  have cc1 : w1.cell? ⟨w.heap.size, 1, none⟩ = some (.int .i64 x0) := cc 1
  have cc2 : w1.cell? ⟨w.heap.size, 2, none⟩ = some (.string s0) := cc 2
  have cc3 : w1.cell? ⟨w.heap.size, 3, none⟩ = some (.slice a1 N1 c1) := cc 3
  have cc4 : w1.cell? ⟨w.heap.size, 4, none⟩ = some (.int .i64 x1) := cc 4
  have cc5 : w1.cell? ⟨w.heap.size, 5, none⟩ = some (.string s1) := cc 5
  have cc6 : w1.cell? ⟨w.heap.size, 6, none⟩ = some (.slice a2 N2 c2) := cc 6
  have cc7 : w1.cell? ⟨w.heap.size, 7, none⟩ = some (.int .i64 x2) := cc 7
  have cc8 : w1.cell? ⟨w.heap.size, 8, none⟩ = some (.string s2) := cc 8
  have HB1 := hide (And.intro hb1 hbk1)
  have HTT := hide hT
  clear cc hkn hbk hbx b1 hb1 hbk1 hT
  have hA1 : ∀ (p : Addr) (v : Value) (o1 : Obj), w1.cell? p = some v → (w1.alloc o1).cell? p = some v := fun p v o1 hp => (Below.cell ((Below.refl _ w1).alloc (Nat.le_refl _) o1) (World.block_lt_of_cell? _ _ hp)).trans hp
  have hA2 : ∀ (p : Addr) (v : Value) (o1 o2 : Obj), w1.cell? p = some v → ((w1.alloc o1).alloc o2).cell? p = some v := fun p v o1 o2 hp => (Below.cell (((Below.refl _ w1).alloc (Nat.le_refl _) o1).alloc (by simp) o2) (World.block_lt_of_cell? _ _ hp)).trans hp
  have hA3 : ∀ (p : Addr) (v : Value) (o1 o2 o3 : Obj), w1.cell? p = some v → (((w1.alloc o1).alloc o2).alloc o3).cell? p = some v := fun p v o1 o2 o3 hp => (Below.cell ((((Below.refl _ w1).alloc (Nat.le_refl _) o1).alloc (by simp) o2).alloc (by simp; omega) o3) (World.block_lt_of_cell? _ _ hp)).trans hp
  have e10 := fun o1 => hA1 ⟨w.heap.size, 0, none⟩ (.slice a0 N0 c0) o1 cc0
  have e20 := fun o1 o2 => hA2 ⟨w.heap.size, 0, none⟩ (.slice a0 N0 c0) o1 o2 cc0
  have e30 := fun o1 o2 o3 => hA3 ⟨w.heap.size, 0, none⟩ (.slice a0 N0 c0) o1 o2 o3 cc0
  have e11 := fun o1 => hA1 ⟨w.heap.size, 1, none⟩ (.int .i64 x0) o1 cc1
  have e21 := fun o1 o2 => hA2 ⟨w.heap.size, 1, none⟩ (.int .i64 x0) o1 o2 cc1
  have e31 := fun o1 o2 o3 => hA3 ⟨w.heap.size, 1, none⟩ (.int .i64 x0) o1 o2 o3 cc1
  have e12 := fun o1 => hA1 ⟨w.heap.size, 2, none⟩ (.string s0) o1 cc2
  have e22 := fun o1 o2 => hA2 ⟨w.heap.size, 2, none⟩ (.string s0) o1 o2 cc2
  have e32 := fun o1 o2 o3 => hA3 ⟨w.heap.size, 2, none⟩ (.string s0) o1 o2 o3 cc2
  have e13 := fun o1 => hA1 ⟨w.heap.size, 3, none⟩ (.slice a1 N1 c1) o1 cc3
  have e23 := fun o1 o2 => hA2 ⟨w.heap.size, 3, none⟩ (.slice a1 N1 c1) o1 o2 cc3
  have e33 := fun o1 o2 o3 => hA3 ⟨w.heap.size, 3, none⟩ (.slice a1 N1 c1) o1 o2 o3 cc3
  have e14 := fun o1 => hA1 ⟨w.heap.size, 4, none⟩ (.int .i64 x1) o1 cc4
  have e24 := fun o1 o2 => hA2 ⟨w.heap.size, 4, none⟩ (.int .i64 x1) o1 o2 cc4
  have e34 := fun o1 o2 o3 => hA3 ⟨w.heap.size, 4, none⟩ (.int .i64 x1) o1 o2 o3 cc4
  have e15 := fun o1 => hA1 ⟨w.heap.size, 5, none⟩ (.string s1) o1 cc5
  have e25 := fun o1 o2 => hA2 ⟨w.heap.size, 5, none⟩ (.string s1) o1 o2 cc5
  have e35 := fun o1 o2 o3 => hA3 ⟨w.heap.size, 5, none⟩ (.string s1) o1 o2 o3 cc5
  have e16 := fun o1 => hA1 ⟨w.heap.size, 6, none⟩ (.slice a2 N2 c2) o1 cc6
  have e26 := fun o1 o2 => hA2 ⟨w.heap.size, 6, none⟩ (.slice a2 N2 c2) o1 o2 cc6
  have e36 := fun o1 o2 o3 => hA3 ⟨w.heap.size, 6, none⟩ (.slice a2 N2 c2) o1 o2 o3 cc6
  have e17 := fun o1 => hA1 ⟨w.heap.size, 7, none⟩ (.int .i64 x2) o1 cc7
  have e27 := fun o1 o2 => hA2 ⟨w.heap.size, 7, none⟩ (.int .i64 x2) o1 o2 cc7
  have e37 := fun o1 o2 o3 => hA3 ⟨w.heap.size, 7, none⟩ (.int .i64 x2) o1 o2 o3 cc7
  have e18 := fun o1 => hA1 ⟨w.heap.size, 8, none⟩ (.string s2) o1 cc8
  have e28 := fun o1 o2 => hA2 ⟨w.heap.size, 8, none⟩ (.string s2) o1 o2 cc8
  have e38 := fun o1 o2 o3 => hA3 ⟨w.heap.size, 8, none⟩ (.string s2) o1 o2 o3 cc8
  clear hA1 hA2 hA3
  go_cut [3, 4, 5] (fun v3 v4 v5 wc => ∃ A B C : Nat, v3 = .pointer (some ⟨A, 0, none⟩) ∧ v4 = .pointer (some ⟨B, 0, none⟩) ∧ v5 = .pointer (some ⟨C, 0, none⟩) ∧ Hid (PAt wc A a0 N0 c0 x0 s0 ∧ PAt wc B a1 N1 c1 x1 s1 ∧ PAt wc C a2 N2 c2 x2 s2 ∧ Below w.heap.size w wc))
  case first =>
    as_aux_lemma =>
      have hn3 : ∀ o1 o2 o3 : Obj, ((((w1.alloc o1).alloc o2).alloc o3).drew.heap[w1.heap.size]? = some o1 ∧ (((w1.alloc o1).alloc o2).alloc o3).drew.heap[w1.heap.size + 1]? = some o2 ∧ (((w1.alloc o1).alloc o2).alloc o3).drew.heap[w1.heap.size + 1 + 1]? = some o3) ∧ Below w.heap.size w (((w1.alloc o1).alloc o2).alloc o3).drew := fun o1 o2 o3 => by
        obtain ⟨q1, q2⟩ := new2 w1 o1 o2
        have s2 : ((w1.alloc o1).alloc o2).heap.size = w1.heap.size + 1 + 1 := by simp
        have q3 := heap_alloc_new ((w1.alloc o1).alloc o2) o3
        rw [s2] at q3
        have hs := HB1.out.1.size
        refine ⟨⟨?_, ?_, q3⟩, ((((HB1.out.1.alloc hs _).alloc (by simp; omega) _).alloc (by simp; omega) _)).drew⟩
        · exact (Below.heap_alloc _ o3 _ (by rw [s2]; omega)).trans q1
        · exact (Below.heap_alloc _ o3 _ (by rw [s2]; omega)).trans q2
      have HN3 := hide hn3
      clear hn3
      go_region
      all_goals go_wp2
      all_goals go_meet
      all_goals exact ⟨_, _, _, rfl, rfl, rfl, hide ⟨by first | exact (HN3.out _ _ _).1.1 | exact (HN3.out _ _ _).1.2.1 | exact (HN3.out _ _ _).1.2.2, by first | exact (HN3.out _ _ _).1.1 | exact (HN3.out _ _ _).1.2.1 | exact (HN3.out _ _ _).1.2.2, by first | exact (HN3.out _ _ _).1.1 | exact (HN3.out _ _ _).1.2.1 | exact (HN3.out _ _ _).1.2.2, (HN3.out _ _ _).2⟩⟩
  case rest =>
    clear e10 e20 e30 e11 e21 e31 e12 e22 e32 e13 e23 e33 e14 e24 e34 e15 e25 e35 e16 e26 e36 e17 e27 e37 e18 e28 e38 cc0 cc1 cc2 cc3 cc4 cc5 cc6 cc7 cc8
    obtain ⟨A, B, C, rfl, rfl, rfl, HP⟩ := hcut
    obtain ⟨pA, pB, pC, hBc⟩ := HP.out
    obtain ⟨r0, r1, r2⟩ := HR.out
    obtain ⟨e0, e1, e2⟩ := HN.out
    have k01 : ∀ W, Below w.heap.size w W → Calls Tryd.prog 33 #[plv a0 N0 c0 x0 s0, plv a1 N1 c1 x1 s1] W fun e w' => e = .returned (.int .i64 (cmpL l0 l1 x0 x1 s0 s1)) ∧ Below W.heap.size W w' := fun W hW => by rw [e0, e1]; exact cmpPlace_any x0 x1 s0 s1 (r0.below hW) (r1.below hW) (by omega)
    have k10 : ∀ W, Below w.heap.size w W → Calls Tryd.prog 33 #[plv a1 N1 c1 x1 s1, plv a0 N0 c0 x0 s0] W fun e w' => e = .returned (.int .i64 (cmpL l1 l0 x1 x0 s1 s0)) ∧ Below W.heap.size W w' := fun W hW => by rw [e0, e1]; exact cmpPlace_any x1 x0 s1 s0 (r1.below hW) (r0.below hW) (by omega)
    have k00 : ∀ W, Below w.heap.size w W → Calls Tryd.prog 33 #[plv a0 N0 c0 x0 s0, plv a0 N0 c0 x0 s0] W fun e w' => e = .returned (.int .i64 (cmpL l0 l0 x0 x0 s0 s0)) ∧ Below W.heap.size W w' := fun W hW => by rw [e0]; exact cmpPlace_any x0 x0 s0 s0 (r0.below hW) (r0.below hW) (by omega)
    have k12 : ∀ W, Below w.heap.size w W → Calls Tryd.prog 33 #[plv a1 N1 c1 x1 s1, plv a2 N2 c2 x2 s2] W fun e w' => e = .returned (.int .i64 (cmpL l1 l2 x1 x2 s1 s2)) ∧ Below W.heap.size W w' := fun W hW => by rw [e1, e2]; exact cmpPlace_any x1 x2 s1 s2 (r1.below hW) (r2.below hW) (by omega)
    have k02 : ∀ W, Below w.heap.size w W → Calls Tryd.prog 33 #[plv a0 N0 c0 x0 s0, plv a2 N2 c2 x2 s2] W fun e w' => e = .returned (.int .i64 (cmpL l0 l2 x0 x2 s0 s2)) ∧ Below W.heap.size W w' := fun W hW => by rw [e0, e2]; exact cmpPlace_any x0 x2 s0 s2 (r0.below hW) (r2.below hW) (by omega)
    have p01 : ∀ W, Below w.heap.size w W → Calls Tryd.prog 31 #[.slice a0 N0 c0, .slice a1 N1 c1] W fun e w' => e = .returned (.int .i64 (cmpP l0 l1)) ∧ w' = W := fun W hW => by rw [e0, e1]; exact cmpPath_any (r0.below hW) (r1.below hW) (by omega)
    have p10 : ∀ W, Below w.heap.size w W → Calls Tryd.prog 31 #[.slice a1 N1 c1, .slice a0 N0 c0] W fun e w' => e = .returned (.int .i64 (cmpP l1 l0)) ∧ w' = W := fun W hW => by rw [e0, e1]; exact cmpPath_any (r1.below hW) (r0.below hW) (by omega)
    have q01 := fun W => cmp_any s0 s1 W
    have q10 := fun W => cmp_any s1 s0 W
    rw [cl_anti l1 l0 x1 x0 s1 s0] at k10
    rw [cl_refl l0 x0 s0] at k00
    rw [cp_anti l1 l0] at p10
    rw [ord_B.anti s1 s0] at q10
    have g01 := cl_range l0 l1 x0 x1 s0 s1
    have g12 := cl_range l1 l2 x1 x2 s1 s2
    have g02 := cl_range l0 l2 x0 x2 s0 s2
    have gtr := cl_trans l0 l1 l2 x0 x1 x2 s0 s1 s2
    have gp := cp_range l0 l1
    have gs := ord_B.range s0 s1
    generalize hab : cmpL l0 l1 x0 x1 s0 s1 = ab at k01 k10 g01 gtr
    generalize cmpL l1 l2 x1 x2 s1 s2 = bc at k12 g12 gtr
    generalize cmpL l0 l2 x0 x2 s0 s2 = ac at k02 g02 gtr
    generalize hpab : cmpP l0 l1 = pab at p01 p10 gp
    generalize cmpB s0 s1 = sab at q01 q10 gs
    have nw1 : IntKind.i64.wrap ab = ab := by rw [IntKind.wrap_i64]; rcases g01 with e | e | e <;> omega
    have nw2 : IntKind.i64.wrap pab = pab := by rw [IntKind.wrap_i64]; rcases gp with e | e | e <;> omega
    have nw3 : IntKind.i64.wrap sab = sab := by rw [IntKind.wrap_i64]; rcases gs with e | e | e <;> omega
    have hBW : Below w.heap.size w wc.drew := hBc.drew
    obtain ⟨u0, u1, u2⟩ := pA.cells
    obtain ⟨u3, u4, u5⟩ := pB.cells
    obtain ⟨u6, u7, u8⟩ := pC.cells
    have hS0 : wc.drew.cell? ⟨A, 0, none⟩ = some (.slice a0 N0 c0) ∧ wc.drew.cell? ⟨A, 1, none⟩ = some (.int .i64 x0) ∧ wc.drew.cell? ⟨A, 2, none⟩ = some (.string s0) ∧ wc.drew.cell? ⟨B, 0, none⟩ = some (.slice a1 N1 c1) ∧ wc.drew.cell? ⟨B, 1, none⟩ = some (.int .i64 x1) ∧ wc.drew.cell? ⟨B, 2, none⟩ = some (.string s1) ∧ wc.drew.cell? ⟨C, 0, none⟩ = some (.slice a2 N2 c2) ∧ wc.drew.cell? ⟨C, 1, none⟩ = some (.int .i64 x2) ∧ wc.drew.cell? ⟨C, 2, none⟩ = some (.string s2) := ⟨u0, u1, u2, u3, u4, u5, u6, u7, u8⟩
    have HQ := hide (And.intro hab hpab)
    have HPP := hide (And.intro pA (And.intro pB pC))
    clear u0 u1 u2 u3 u4 u5 u6 u7 u8 hab hpab pA pB pC HP r0 r1 r2 e0 e1 e2 g01 g12 g02 gp gs hBc
    have hBC : Below wc.heap.size wc wc.drew := (Below.refl _ wc).drew
    go_upto_region 4 with fail
    go_cut [80] (fun v80 wd => v80 = .bool false ∧ Hid (PAt wd A a0 N0 c0 x0 s0 ∧ PAt wd B a1 N1 c1 x1 s1 ∧ Below w.heap.size w wd))
    case first =>
      as_aux_lemma =>
        by_cases hle1 : ab ≤ 0
        · by_cases hle2 : bc ≤ 0
          · have hle3 : ¬ (0 < ac) := by have := gtr hle1 hle2; omega
            clear gtr
            refine wp_region_held_drew (S := (fun w' => w'.cell? ⟨A, 0, none⟩ = some (.slice a0 N0 c0) ∧ w'.cell? ⟨A, 1, none⟩ = some (.int .i64 x0) ∧ w'.cell? ⟨A, 2, none⟩ = some (.string s0) ∧ w'.cell? ⟨B, 0, none⟩ = some (.slice a1 N1 c1) ∧ w'.cell? ⟨B, 1, none⟩ = some (.int .i64 x1) ∧ w'.cell? ⟨B, 2, none⟩ = some (.string s1) ∧ w'.cell? ⟨C, 0, none⟩ = some (.slice a2 N2 c2) ∧ w'.cell? ⟨C, 1, none⟩ = some (.int .i64 x2) ∧ w'.cell? ⟨C, 2, none⟩ = some (.string s2))) (by kernel_rfl) (by exact hS0) (fun hHeld => ?_)
            try dsimp only at hHeld
            refine take_op (i := 0) (d := 21) (OP := Op.load 47 (Operand.tmp 3)) (T := 47) (v := ?vq121x) rfl rfl rfl rfl (by kernel_rfl) (by kernel_rfl) (by kernel_rfl) (fun _ _ _ h => h) (by rfl) ?hq121x hHeld ?rq121x
            case hq121x => (intro w' hSw; (try dsimp only at hSw); go_simp <;> with_reducible rfl)
            try simp only [Act.put, List.setIfInBounds_toArray, List.set_cons_zero, List.set_cons_succ]
            refine take_op (i := 1) (d := 22) (OP := Op.load 47 (Operand.tmp 4)) (T := 47) (v := ?vq122x) rfl rfl rfl rfl (by kernel_rfl) (by kernel_rfl) (by kernel_rfl) (fun _ _ _ h => h) (by rfl) ?hq122x hHeld ?rq122x
            case hq122x => (intro w' hSw; (try dsimp only at hSw); go_simp <;> with_reducible rfl)
            try simp only [Act.put, List.setIfInBounds_toArray, List.set_cons_zero, List.set_cons_succ]
            refine take_op (i := 3) (d := 24) (OP := Op.load 47 (Operand.tmp 4)) (T := 47) (v := ?vq123x) rfl rfl rfl rfl (by kernel_rfl) (by kernel_rfl) (by kernel_rfl) (fun _ _ _ h => h) (by rfl) ?hq123x hHeld ?rq123x
            case hq123x => (intro w' hSw; (try dsimp only at hSw); go_simp <;> with_reducible rfl)
            try simp only [Act.put, List.setIfInBounds_toArray, List.set_cons_zero, List.set_cons_succ]
            refine take_op (i := 4) (d := 25) (OP := Op.load 47 (Operand.tmp 3)) (T := 47) (v := ?vq124x) rfl rfl rfl rfl (by kernel_rfl) (by kernel_rfl) (by kernel_rfl) (fun _ _ _ h => h) (by rfl) ?hq124x hHeld ?rq124x
            case hq124x => (intro w' hSw; (try dsimp only at hSw); go_simp <;> with_reducible rfl)
            try simp only [Act.put, List.setIfInBounds_toArray, List.set_cons_zero, List.set_cons_succ]
            refine call_op (i := 2) (d := 23) (OP := Op.call { callee := Callee.value (Operand.func 33), args := #[Operand.tmp 21, Operand.tmp 22], argTypes := #[47, 47] }) (T := 3) (f := 33) (args := #[plv a0 N0 c0 x0 s0, plv a1 N1 c1 x1 s1]) rfl rfl rfl rfl (by kernel_rfl) (by rfl) (by go_simp) ?_
            refine (k01 _ hBW).mono ?_
            rintro e w18x ⟨rfl, bb⟩
            have hS18x : w18x.cell? ⟨A, 0, none⟩ = some (.slice a0 N0 c0) ∧ w18x.cell? ⟨A, 1, none⟩ = some (.int .i64 x0) ∧ w18x.cell? ⟨A, 2, none⟩ = some (.string s0) ∧ w18x.cell? ⟨B, 0, none⟩ = some (.slice a1 N1 c1) ∧ w18x.cell? ⟨B, 1, none⟩ = some (.int .i64 x1) ∧ w18x.cell? ⟨B, 2, none⟩ = some (.string s1) ∧ w18x.cell? ⟨C, 0, none⟩ = some (.slice a2 N2 c2) ∧ w18x.cell? ⟨C, 1, none⟩ = some (.int .i64 x2) ∧ w18x.cell? ⟨C, 2, none⟩ = some (.string s2) := ⟨(bb.cell (World.block_lt_of_cell? _ _ hHeld.1)).trans hHeld.1, (bb.cell (World.block_lt_of_cell? _ _ hHeld.2.1)).trans hHeld.2.1, (bb.cell (World.block_lt_of_cell? _ _ hHeld.2.2.1)).trans hHeld.2.2.1, (bb.cell (World.block_lt_of_cell? _ _ hHeld.2.2.2.1)).trans hHeld.2.2.2.1, (bb.cell (World.block_lt_of_cell? _ _ hHeld.2.2.2.2.1)).trans hHeld.2.2.2.2.1, (bb.cell (World.block_lt_of_cell? _ _ hHeld.2.2.2.2.2.1)).trans hHeld.2.2.2.2.2.1, (bb.cell (World.block_lt_of_cell? _ _ hHeld.2.2.2.2.2.2.1)).trans hHeld.2.2.2.2.2.2.1, (bb.cell (World.block_lt_of_cell? _ _ hHeld.2.2.2.2.2.2.2.1)).trans hHeld.2.2.2.2.2.2.2.1, (bb.cell (World.block_lt_of_cell? _ _ hHeld.2.2.2.2.2.2.2.2)).trans hHeld.2.2.2.2.2.2.2.2⟩
            replace hBW := hBW.trans (bb.mono hBW.size)
            replace hBC := hBC.trans (bb.mono hBC.size)
            clear bb
            refine ⟨_, rfl, hS18x, ?_⟩
            replace hHeld := hS18x
            try simp only [Act.put, List.setIfInBounds_toArray, List.set_cons_zero, List.set_cons_succ]
            refine call_op (i := 5) (d := 26) (OP := Op.call { callee := Callee.value (Operand.func 33), args := #[Operand.tmp 24, Operand.tmp 25], argTypes := #[47, 47] }) (T := 3) (f := 33) (args := #[plv a1 N1 c1 x1 s1, plv a0 N0 c0 x0 s0]) rfl rfl rfl rfl (by kernel_rfl) (by rfl) (by go_simp) ?_
            refine (k10 _ hBW).mono ?_
            rintro e w19x ⟨rfl, bb⟩
            have hS19x : w19x.cell? ⟨A, 0, none⟩ = some (.slice a0 N0 c0) ∧ w19x.cell? ⟨A, 1, none⟩ = some (.int .i64 x0) ∧ w19x.cell? ⟨A, 2, none⟩ = some (.string s0) ∧ w19x.cell? ⟨B, 0, none⟩ = some (.slice a1 N1 c1) ∧ w19x.cell? ⟨B, 1, none⟩ = some (.int .i64 x1) ∧ w19x.cell? ⟨B, 2, none⟩ = some (.string s1) ∧ w19x.cell? ⟨C, 0, none⟩ = some (.slice a2 N2 c2) ∧ w19x.cell? ⟨C, 1, none⟩ = some (.int .i64 x2) ∧ w19x.cell? ⟨C, 2, none⟩ = some (.string s2) := ⟨(bb.cell (World.block_lt_of_cell? _ _ hHeld.1)).trans hHeld.1, (bb.cell (World.block_lt_of_cell? _ _ hHeld.2.1)).trans hHeld.2.1, (bb.cell (World.block_lt_of_cell? _ _ hHeld.2.2.1)).trans hHeld.2.2.1, (bb.cell (World.block_lt_of_cell? _ _ hHeld.2.2.2.1)).trans hHeld.2.2.2.1, (bb.cell (World.block_lt_of_cell? _ _ hHeld.2.2.2.2.1)).trans hHeld.2.2.2.2.1, (bb.cell (World.block_lt_of_cell? _ _ hHeld.2.2.2.2.2.1)).trans hHeld.2.2.2.2.2.1, (bb.cell (World.block_lt_of_cell? _ _ hHeld.2.2.2.2.2.2.1)).trans hHeld.2.2.2.2.2.2.1, (bb.cell (World.block_lt_of_cell? _ _ hHeld.2.2.2.2.2.2.2.1)).trans hHeld.2.2.2.2.2.2.2.1, (bb.cell (World.block_lt_of_cell? _ _ hHeld.2.2.2.2.2.2.2.2)).trans hHeld.2.2.2.2.2.2.2.2⟩
            replace hBW := hBW.trans (bb.mono hBW.size)
            replace hBC := hBC.trans (bb.mono hBC.size)
            clear bb
            refine ⟨_, rfl, hS19x, ?_⟩
            replace hHeld := hS19x
            try simp only [Act.put, List.setIfInBounds_toArray, List.set_cons_zero, List.set_cons_succ]
            refine take_op (i := 6) (d := 27) (OP := Op.unOp UnOp.neg 3 (Operand.tmp 26)) (T := 3) (v := ?vq127x) rfl rfl rfl rfl (by kernel_rfl) (by kernel_rfl) (by kernel_rfl) (fun _ _ _ h => h) (by rfl) ?hq127x hHeld ?rq127x
            case hq127x => (intro w' hSw; (try dsimp only at hSw); go_simp <;> with_reducible rfl)
            try simp only [Act.put, List.setIfInBounds_toArray, List.set_cons_zero, List.set_cons_succ]
            refine take_op (i := 7) (d := 28) (OP := Op.binOp BinOp.neq 3 (Operand.tmp 23) (Operand.tmp 27) 3) (T := 4) (v := ?vq128x) rfl rfl rfl rfl (by kernel_rfl) (by kernel_rfl) (by kernel_rfl) (fun _ _ _ h => h) (by rfl) ?hq128x hHeld ?rq128x
            case hq128x => (intro w' hSw; (try dsimp only at hSw); go_simp <;> with_reducible rfl)
            try simp only [Act.put, List.setIfInBounds_toArray, List.set_cons_zero, List.set_cons_succ]
            refine take_op (i := 8) (d := 29) (OP := Op.move (Operand.tmp 28)) (T := 4) (v := ?vq129x) rfl rfl rfl rfl (by kernel_rfl) (by kernel_rfl) (by kernel_rfl) (fun _ _ _ h => h) (by rfl) ?hq129x hHeld ?rq129x
            case hq129x => (intro w' hSw; (try dsimp only at hSw); go_simp <;> with_reducible rfl)
            try simp only [Act.put, List.setIfInBounds_toArray, List.set_cons_zero, List.set_cons_succ]
            refine take_op (i := 9) (d := 30) (OP := Op.load 47 (Operand.tmp 3)) (T := 47) (v := ?vq130x) rfl rfl rfl rfl (by kernel_rfl) (by kernel_rfl) (by kernel_rfl) (fun _ _ _ h => h) (by rfl) ?hq130x hHeld ?rq130x
            case hq130x => (intro w' hSw; (try dsimp only at hSw); go_simp <;> with_reducible rfl)
            try simp only [Act.put, List.setIfInBounds_toArray, List.set_cons_zero, List.set_cons_succ]
            refine take_op (i := 10) (d := 31) (OP := Op.load 47 (Operand.tmp 3)) (T := 47) (v := ?vq131x) rfl rfl rfl rfl (by kernel_rfl) (by kernel_rfl) (by kernel_rfl) (fun _ _ _ h => h) (by rfl) ?hq131x hHeld ?rq131x
            case hq131x => (intro w' hSw; (try dsimp only at hSw); go_simp <;> with_reducible rfl)
            try simp only [Act.put, List.setIfInBounds_toArray, List.set_cons_zero, List.set_cons_succ]
            refine call_op (i := 11) (d := 32) (OP := Op.call { callee := Callee.value (Operand.func 33), args := #[Operand.tmp 30, Operand.tmp 31], argTypes := #[47, 47] }) (T := 3) (f := 33) (args := #[plv a0 N0 c0 x0 s0, plv a0 N0 c0 x0 s0]) rfl rfl rfl rfl (by kernel_rfl) (by rfl) (by go_simp) ?_
            refine (k00 _ hBW).mono ?_
            rintro e w20x ⟨rfl, bb⟩
            have hS20x : w20x.cell? ⟨A, 0, none⟩ = some (.slice a0 N0 c0) ∧ w20x.cell? ⟨A, 1, none⟩ = some (.int .i64 x0) ∧ w20x.cell? ⟨A, 2, none⟩ = some (.string s0) ∧ w20x.cell? ⟨B, 0, none⟩ = some (.slice a1 N1 c1) ∧ w20x.cell? ⟨B, 1, none⟩ = some (.int .i64 x1) ∧ w20x.cell? ⟨B, 2, none⟩ = some (.string s1) ∧ w20x.cell? ⟨C, 0, none⟩ = some (.slice a2 N2 c2) ∧ w20x.cell? ⟨C, 1, none⟩ = some (.int .i64 x2) ∧ w20x.cell? ⟨C, 2, none⟩ = some (.string s2) := ⟨(bb.cell (World.block_lt_of_cell? _ _ hHeld.1)).trans hHeld.1, (bb.cell (World.block_lt_of_cell? _ _ hHeld.2.1)).trans hHeld.2.1, (bb.cell (World.block_lt_of_cell? _ _ hHeld.2.2.1)).trans hHeld.2.2.1, (bb.cell (World.block_lt_of_cell? _ _ hHeld.2.2.2.1)).trans hHeld.2.2.2.1, (bb.cell (World.block_lt_of_cell? _ _ hHeld.2.2.2.2.1)).trans hHeld.2.2.2.2.1, (bb.cell (World.block_lt_of_cell? _ _ hHeld.2.2.2.2.2.1)).trans hHeld.2.2.2.2.2.1, (bb.cell (World.block_lt_of_cell? _ _ hHeld.2.2.2.2.2.2.1)).trans hHeld.2.2.2.2.2.2.1, (bb.cell (World.block_lt_of_cell? _ _ hHeld.2.2.2.2.2.2.2.1)).trans hHeld.2.2.2.2.2.2.2.1, (bb.cell (World.block_lt_of_cell? _ _ hHeld.2.2.2.2.2.2.2.2)).trans hHeld.2.2.2.2.2.2.2.2⟩
            replace hBW := hBW.trans (bb.mono hBW.size)
            replace hBC := hBC.trans (bb.mono hBC.size)
            clear bb
            refine ⟨_, rfl, hS20x, ?_⟩
            replace hHeld := hS20x
            try simp only [Act.put, List.setIfInBounds_toArray, List.set_cons_zero, List.set_cons_succ]
            refine take_op (i := 12) (d := 33) (OP := Op.binOp BinOp.neq 3 (Operand.tmp 32) (Operand.const (Value.int IntKind.i64 0)) 3) (T := 4) (v := ?vq133x) rfl rfl rfl rfl (by kernel_rfl) (by kernel_rfl) (by kernel_rfl) (fun _ _ _ h => h) (by rfl) ?hq133x hHeld ?rq133x
            case hq133x => (intro w' hSw; (try dsimp only at hSw); go_simp <;> with_reducible rfl)
            try simp only [Act.put, List.setIfInBounds_toArray, List.set_cons_zero, List.set_cons_succ]
            refine take_op (i := 13) (d := 34) (OP := Op.pick (Operand.tmp 29) (Operand.const (Value.bool true)) (Operand.tmp 33)) (T := 4) (v := ?vq134x) rfl rfl rfl rfl (by kernel_rfl) (by kernel_rfl) (by kernel_rfl) (fun _ _ _ h => h) (by rfl) ?hq134x hHeld ?rq134x
            case hq134x => (intro w' hSw; (try dsimp only at hSw); go_simp <;> with_reducible rfl)
            try simp only [Act.put, List.setIfInBounds_toArray, List.set_cons_zero, List.set_cons_succ]
            refine take_op (i := 14) (d := 35) (OP := Op.move (Operand.tmp 34)) (T := 4) (v := ?vq135x) rfl rfl rfl rfl (by kernel_rfl) (by kernel_rfl) (by kernel_rfl) (fun _ _ _ h => h) (by rfl) ?hq135x hHeld ?rq135x
            case hq135x => (intro w' hSw; (try dsimp only at hSw); go_simp <;> with_reducible rfl)
            try simp only [Act.put, List.setIfInBounds_toArray, List.set_cons_zero, List.set_cons_succ]
            refine take_op (i := 15) (d := 36) (OP := Op.load 47 (Operand.tmp 3)) (T := 47) (v := ?vq136x) rfl rfl rfl rfl (by kernel_rfl) (by kernel_rfl) (by kernel_rfl) (fun _ _ _ h => h) (by rfl) ?hq136x hHeld ?rq136x
            case hq136x => (intro w' hSw; (try dsimp only at hSw); go_simp <;> with_reducible rfl)
            try simp only [Act.put, List.setIfInBounds_toArray, List.set_cons_zero, List.set_cons_succ]
            refine take_op (i := 16) (d := 37) (OP := Op.load 47 (Operand.tmp 4)) (T := 47) (v := ?vq137x) rfl rfl rfl rfl (by kernel_rfl) (by kernel_rfl) (by kernel_rfl) (fun _ _ _ h => h) (by rfl) ?hq137x hHeld ?rq137x
            case hq137x => (intro w' hSw; (try dsimp only at hSw); go_simp <;> with_reducible rfl)
            try simp only [Act.put, List.setIfInBounds_toArray, List.set_cons_zero, List.set_cons_succ]
            refine call_op (i := 17) (d := 38) (OP := Op.call { callee := Callee.value (Operand.func 33), args := #[Operand.tmp 36, Operand.tmp 37], argTypes := #[47, 47] }) (T := 3) (f := 33) (args := #[plv a0 N0 c0 x0 s0, plv a1 N1 c1 x1 s1]) rfl rfl rfl rfl (by kernel_rfl) (by rfl) (by go_simp) ?_
            refine (k01 _ hBW).mono ?_
            rintro e w21x ⟨rfl, bb⟩
            have hS21x : w21x.cell? ⟨A, 0, none⟩ = some (.slice a0 N0 c0) ∧ w21x.cell? ⟨A, 1, none⟩ = some (.int .i64 x0) ∧ w21x.cell? ⟨A, 2, none⟩ = some (.string s0) ∧ w21x.cell? ⟨B, 0, none⟩ = some (.slice a1 N1 c1) ∧ w21x.cell? ⟨B, 1, none⟩ = some (.int .i64 x1) ∧ w21x.cell? ⟨B, 2, none⟩ = some (.string s1) ∧ w21x.cell? ⟨C, 0, none⟩ = some (.slice a2 N2 c2) ∧ w21x.cell? ⟨C, 1, none⟩ = some (.int .i64 x2) ∧ w21x.cell? ⟨C, 2, none⟩ = some (.string s2) := ⟨(bb.cell (World.block_lt_of_cell? _ _ hHeld.1)).trans hHeld.1, (bb.cell (World.block_lt_of_cell? _ _ hHeld.2.1)).trans hHeld.2.1, (bb.cell (World.block_lt_of_cell? _ _ hHeld.2.2.1)).trans hHeld.2.2.1, (bb.cell (World.block_lt_of_cell? _ _ hHeld.2.2.2.1)).trans hHeld.2.2.2.1, (bb.cell (World.block_lt_of_cell? _ _ hHeld.2.2.2.2.1)).trans hHeld.2.2.2.2.1, (bb.cell (World.block_lt_of_cell? _ _ hHeld.2.2.2.2.2.1)).trans hHeld.2.2.2.2.2.1, (bb.cell (World.block_lt_of_cell? _ _ hHeld.2.2.2.2.2.2.1)).trans hHeld.2.2.2.2.2.2.1, (bb.cell (World.block_lt_of_cell? _ _ hHeld.2.2.2.2.2.2.2.1)).trans hHeld.2.2.2.2.2.2.2.1, (bb.cell (World.block_lt_of_cell? _ _ hHeld.2.2.2.2.2.2.2.2)).trans hHeld.2.2.2.2.2.2.2.2⟩
            replace hBW := hBW.trans (bb.mono hBW.size)
            replace hBC := hBC.trans (bb.mono hBC.size)
            clear bb
            refine ⟨_, rfl, hS21x, ?_⟩
            replace hHeld := hS21x
            try simp only [Act.put, List.setIfInBounds_toArray, List.set_cons_zero, List.set_cons_succ]
            refine take_op (i := 18) (d := 39) (OP := Op.binOp BinOp.leq 3 (Operand.tmp 38) (Operand.const (Value.int IntKind.i64 0)) 3) (T := 4) (v := ?vq139x) rfl rfl rfl rfl (by kernel_rfl) (by kernel_rfl) (by kernel_rfl) (fun _ _ _ h => h) (by rfl) ?hq139x hHeld ?rq139x
            case hq139x => (intro w' hSw; (try dsimp only at hSw); go_simp <;> with_reducible rfl)
            try simp only [Act.put, List.setIfInBounds_toArray, List.set_cons_zero, List.set_cons_succ]
            refine take_op (i := 19) (d := 40) (OP := Op.move (Operand.tmp 39)) (T := 4) (v := ?vq140x) rfl rfl rfl rfl (by kernel_rfl) (by kernel_rfl) (by kernel_rfl) (fun _ _ _ h => h) (by rfl) ?hq140x hHeld ?rq140x
            case hq140x => (intro w' hSw; (try dsimp only at hSw); go_simp <;> with_reducible rfl)
            try simp only [Act.put, List.setIfInBounds_toArray, List.set_cons_zero, List.set_cons_succ]
            refine take_op (i := 20) (d := 41) (OP := Op.load 47 (Operand.tmp 4)) (T := 47) (v := ?vq141x) rfl rfl rfl rfl (by kernel_rfl) (by kernel_rfl) (by kernel_rfl) (fun _ _ _ h => h) (by rfl) ?hq141x hHeld ?rq141x
            case hq141x => (intro w' hSw; (try dsimp only at hSw); go_simp <;> with_reducible rfl)
            try simp only [Act.put, List.setIfInBounds_toArray, List.set_cons_zero, List.set_cons_succ]
            refine take_op (i := 21) (d := 42) (OP := Op.load 47 (Operand.tmp 5)) (T := 47) (v := ?vq142x) rfl rfl rfl rfl (by kernel_rfl) (by kernel_rfl) (by kernel_rfl) (fun _ _ _ h => h) (by rfl) ?hq142x hHeld ?rq142x
            case hq142x => (intro w' hSw; (try dsimp only at hSw); go_simp <;> with_reducible rfl)
            try simp only [Act.put, List.setIfInBounds_toArray, List.set_cons_zero, List.set_cons_succ]
            refine call_op (i := 22) (d := 43) (OP := Op.call { callee := Callee.value (Operand.func 33), args := #[Operand.tmp 41, Operand.tmp 42], argTypes := #[47, 47] }) (T := 3) (f := 33) (args := #[plv a1 N1 c1 x1 s1, plv a2 N2 c2 x2 s2]) rfl rfl rfl rfl (by kernel_rfl) (by rfl) (by go_simp) ?_
            refine (k12 _ hBW).mono ?_
            rintro e w22x ⟨rfl, bb⟩
            have hS22x : w22x.cell? ⟨A, 0, none⟩ = some (.slice a0 N0 c0) ∧ w22x.cell? ⟨A, 1, none⟩ = some (.int .i64 x0) ∧ w22x.cell? ⟨A, 2, none⟩ = some (.string s0) ∧ w22x.cell? ⟨B, 0, none⟩ = some (.slice a1 N1 c1) ∧ w22x.cell? ⟨B, 1, none⟩ = some (.int .i64 x1) ∧ w22x.cell? ⟨B, 2, none⟩ = some (.string s1) ∧ w22x.cell? ⟨C, 0, none⟩ = some (.slice a2 N2 c2) ∧ w22x.cell? ⟨C, 1, none⟩ = some (.int .i64 x2) ∧ w22x.cell? ⟨C, 2, none⟩ = some (.string s2) := ⟨(bb.cell (World.block_lt_of_cell? _ _ hHeld.1)).trans hHeld.1, (bb.cell (World.block_lt_of_cell? _ _ hHeld.2.1)).trans hHeld.2.1, (bb.cell (World.block_lt_of_cell? _ _ hHeld.2.2.1)).trans hHeld.2.2.1, (bb.cell (World.block_lt_of_cell? _ _ hHeld.2.2.2.1)).trans hHeld.2.2.2.1, (bb.cell (World.block_lt_of_cell? _ _ hHeld.2.2.2.2.1)).trans hHeld.2.2.2.2.1, (bb.cell (World.block_lt_of_cell? _ _ hHeld.2.2.2.2.2.1)).trans hHeld.2.2.2.2.2.1, (bb.cell (World.block_lt_of_cell? _ _ hHeld.2.2.2.2.2.2.1)).trans hHeld.2.2.2.2.2.2.1, (bb.cell (World.block_lt_of_cell? _ _ hHeld.2.2.2.2.2.2.2.1)).trans hHeld.2.2.2.2.2.2.2.1, (bb.cell (World.block_lt_of_cell? _ _ hHeld.2.2.2.2.2.2.2.2)).trans hHeld.2.2.2.2.2.2.2.2⟩
            replace hBW := hBW.trans (bb.mono hBW.size)
            replace hBC := hBC.trans (bb.mono hBC.size)
            clear bb
            refine ⟨_, rfl, hS22x, ?_⟩
            replace hHeld := hS22x
            try simp only [Act.put, List.setIfInBounds_toArray, List.set_cons_zero, List.set_cons_succ]
            refine take_op (i := 23) (d := 44) (OP := Op.binOp BinOp.leq 3 (Operand.tmp 43) (Operand.const (Value.int IntKind.i64 0)) 3) (T := 4) (v := ?vq144x) rfl rfl rfl rfl (by kernel_rfl) (by kernel_rfl) (by kernel_rfl) (fun _ _ _ h => h) (by rfl) ?hq144x hHeld ?rq144x
            case hq144x => (intro w' hSw; (try dsimp only at hSw); go_simp <;> with_reducible rfl)
            try simp only [Act.put, List.setIfInBounds_toArray, List.set_cons_zero, List.set_cons_succ]
            refine take_op (i := 24) (d := 45) (OP := Op.pick (Operand.tmp 40) (Operand.tmp 44) (Operand.const (Value.bool false))) (T := 4) (v := ?vq145x) rfl rfl rfl rfl (by kernel_rfl) (by kernel_rfl) (by kernel_rfl) (fun _ _ _ h => h) (by rfl) ?hq145x hHeld ?rq145x
            case hq145x => (intro w' hSw; (try dsimp only at hSw); go_simp <;> with_reducible rfl)
            try simp only [Act.put, List.setIfInBounds_toArray, List.set_cons_zero, List.set_cons_succ]
            refine take_op (i := 25) (d := 46) (OP := Op.move (Operand.tmp 45)) (T := 4) (v := ?vq146x) rfl rfl rfl rfl (by kernel_rfl) (by kernel_rfl) (by kernel_rfl) (fun _ _ _ h => h) (by rfl) ?hq146x hHeld ?rq146x
            case hq146x => (intro w' hSw; (try dsimp only at hSw); go_simp <;> with_reducible rfl)
            try simp only [Act.put, List.setIfInBounds_toArray, List.set_cons_zero, List.set_cons_succ]
            refine take_op (i := 26) (d := 47) (OP := Op.load 47 (Operand.tmp 3)) (T := 47) (v := ?vq147x) rfl rfl rfl rfl (by kernel_rfl) (by kernel_rfl) (by kernel_rfl) (fun _ _ _ h => h) (by rfl) ?hq147x hHeld ?rq147x
            case hq147x => (intro w' hSw; (try dsimp only at hSw); go_simp <;> with_reducible rfl)
            try simp only [Act.put, List.setIfInBounds_toArray, List.set_cons_zero, List.set_cons_succ]
            refine take_op (i := 27) (d := 48) (OP := Op.load 47 (Operand.tmp 5)) (T := 47) (v := ?vq148x) rfl rfl rfl rfl (by kernel_rfl) (by kernel_rfl) (by kernel_rfl) (fun _ _ _ h => h) (by rfl) ?hq148x hHeld ?rq148x
            case hq148x => (intro w' hSw; (try dsimp only at hSw); go_simp <;> with_reducible rfl)
            try simp only [Act.put, List.setIfInBounds_toArray, List.set_cons_zero, List.set_cons_succ]
            refine call_op (i := 28) (d := 49) (OP := Op.call { callee := Callee.value (Operand.func 33), args := #[Operand.tmp 47, Operand.tmp 48], argTypes := #[47, 47] }) (T := 3) (f := 33) (args := #[plv a0 N0 c0 x0 s0, plv a2 N2 c2 x2 s2]) rfl rfl rfl rfl (by kernel_rfl) (by rfl) (by go_simp) ?_
            refine (k02 _ hBW).mono ?_
            rintro e w23x ⟨rfl, bb⟩
            have hS23x : w23x.cell? ⟨A, 0, none⟩ = some (.slice a0 N0 c0) ∧ w23x.cell? ⟨A, 1, none⟩ = some (.int .i64 x0) ∧ w23x.cell? ⟨A, 2, none⟩ = some (.string s0) ∧ w23x.cell? ⟨B, 0, none⟩ = some (.slice a1 N1 c1) ∧ w23x.cell? ⟨B, 1, none⟩ = some (.int .i64 x1) ∧ w23x.cell? ⟨B, 2, none⟩ = some (.string s1) ∧ w23x.cell? ⟨C, 0, none⟩ = some (.slice a2 N2 c2) ∧ w23x.cell? ⟨C, 1, none⟩ = some (.int .i64 x2) ∧ w23x.cell? ⟨C, 2, none⟩ = some (.string s2) := ⟨(bb.cell (World.block_lt_of_cell? _ _ hHeld.1)).trans hHeld.1, (bb.cell (World.block_lt_of_cell? _ _ hHeld.2.1)).trans hHeld.2.1, (bb.cell (World.block_lt_of_cell? _ _ hHeld.2.2.1)).trans hHeld.2.2.1, (bb.cell (World.block_lt_of_cell? _ _ hHeld.2.2.2.1)).trans hHeld.2.2.2.1, (bb.cell (World.block_lt_of_cell? _ _ hHeld.2.2.2.2.1)).trans hHeld.2.2.2.2.1, (bb.cell (World.block_lt_of_cell? _ _ hHeld.2.2.2.2.2.1)).trans hHeld.2.2.2.2.2.1, (bb.cell (World.block_lt_of_cell? _ _ hHeld.2.2.2.2.2.2.1)).trans hHeld.2.2.2.2.2.2.1, (bb.cell (World.block_lt_of_cell? _ _ hHeld.2.2.2.2.2.2.2.1)).trans hHeld.2.2.2.2.2.2.2.1, (bb.cell (World.block_lt_of_cell? _ _ hHeld.2.2.2.2.2.2.2.2)).trans hHeld.2.2.2.2.2.2.2.2⟩
            replace hBW := hBW.trans (bb.mono hBW.size)
            replace hBC := hBC.trans (bb.mono hBC.size)
            clear bb
            refine ⟨_, rfl, hS23x, ?_⟩
            replace hHeld := hS23x
            try simp only [Act.put, List.setIfInBounds_toArray, List.set_cons_zero, List.set_cons_succ]
            refine take_op (i := 29) (d := 50) (OP := Op.binOp BinOp.gtr 3 (Operand.tmp 49) (Operand.const (Value.int IntKind.i64 0)) 3) (T := 4) (v := ?vq150x) rfl rfl rfl rfl (by kernel_rfl) (by kernel_rfl) (by kernel_rfl) (fun _ _ _ h => h) (by rfl) ?hq150x hHeld ?rq150x
            case hq150x => (intro w' hSw; (try dsimp only at hSw); go_simp <;> with_reducible rfl)
            try simp only [Act.put, List.setIfInBounds_toArray, List.set_cons_zero, List.set_cons_succ]
            refine take_op (i := 30) (d := 51) (OP := Op.pick (Operand.tmp 46) (Operand.tmp 50) (Operand.const (Value.bool false))) (T := 4) (v := ?vq151x) rfl rfl rfl rfl (by kernel_rfl) (by kernel_rfl) (by kernel_rfl) (fun _ _ _ h => h) (by rfl) ?hq151x hHeld ?rq151x
            case hq151x => (intro w' hSw; (try dsimp only at hSw); go_simp <;> with_reducible rfl)
            try simp only [Act.put, List.setIfInBounds_toArray, List.set_cons_zero, List.set_cons_succ]
            refine take_op (i := 31) (d := 52) (OP := Op.pick (Operand.tmp 35) (Operand.const (Value.bool true)) (Operand.tmp 51)) (T := 4) (v := ?vq152x) rfl rfl rfl rfl (by kernel_rfl) (by kernel_rfl) (by kernel_rfl) (fun _ _ _ h => h) (by rfl) ?hq152x hHeld ?rq152x
            case hq152x => (intro w' hSw; (try dsimp only at hSw); go_simp <;> with_reducible rfl)
            try simp only [Act.put, List.setIfInBounds_toArray, List.set_cons_zero, List.set_cons_succ]
            refine take_op (i := 32) (d := 53) (OP := Op.move (Operand.tmp 52)) (T := 4) (v := ?vq153x) rfl rfl rfl rfl (by kernel_rfl) (by kernel_rfl) (by kernel_rfl) (fun _ _ _ h => h) (by rfl) ?hq153x hHeld ?rq153x
            case hq153x => (intro w' hSw; (try dsimp only at hSw); go_simp <;> with_reducible rfl)
            try simp only [Act.put, List.setIfInBounds_toArray, List.set_cons_zero, List.set_cons_succ]
            refine take_op (i := 33) (d := 54) (OP := Op.fieldAddr 47 (Operand.tmp 3) 0) (T := 0) (v := ?vq154x) rfl rfl rfl rfl (by kernel_rfl) (by kernel_rfl) (by kernel_rfl) (fun _ _ _ h => h) (by rfl) ?hq154x hHeld ?rq154x
            case hq154x => (intro w' hSw; (try dsimp only at hSw); go_simp <;> with_reducible rfl)
            try simp only [Act.put, List.setIfInBounds_toArray, List.set_cons_zero, List.set_cons_succ]
            refine take_op (i := 34) (d := 55) (OP := Op.load 23 (Operand.tmp 54)) (T := 23) (v := ?vq155x) rfl rfl rfl rfl (by kernel_rfl) (by kernel_rfl) (by kernel_rfl) (fun _ _ _ h => h) (by rfl) ?hq155x hHeld ?rq155x
            case hq155x => (intro w' hSw; (try dsimp only at hSw); go_simp <;> with_reducible rfl)
            try simp only [Act.put, List.setIfInBounds_toArray, List.set_cons_zero, List.set_cons_succ]
            refine take_op (i := 35) (d := 56) (OP := Op.fieldAddr 47 (Operand.tmp 4) 0) (T := 0) (v := ?vq156x) rfl rfl rfl rfl (by kernel_rfl) (by kernel_rfl) (by kernel_rfl) (fun _ _ _ h => h) (by rfl) ?hq156x hHeld ?rq156x
            case hq156x => (intro w' hSw; (try dsimp only at hSw); go_simp <;> with_reducible rfl)
            try simp only [Act.put, List.setIfInBounds_toArray, List.set_cons_zero, List.set_cons_succ]
            refine take_op (i := 36) (d := 57) (OP := Op.load 23 (Operand.tmp 56)) (T := 23) (v := ?vq157x) rfl rfl rfl rfl (by kernel_rfl) (by kernel_rfl) (by kernel_rfl) (fun _ _ _ h => h) (by rfl) ?hq157x hHeld ?rq157x
            case hq157x => (intro w' hSw; (try dsimp only at hSw); go_simp <;> with_reducible rfl)
            try simp only [Act.put, List.setIfInBounds_toArray, List.set_cons_zero, List.set_cons_succ]
            refine take_op (i := 38) (d := 59) (OP := Op.fieldAddr 47 (Operand.tmp 4) 0) (T := 0) (v := ?vq158x) rfl rfl rfl rfl (by kernel_rfl) (by kernel_rfl) (by kernel_rfl) (fun _ _ _ h => h) (by rfl) ?hq158x hHeld ?rq158x
            case hq158x => (intro w' hSw; (try dsimp only at hSw); go_simp <;> with_reducible rfl)
            try simp only [Act.put, List.setIfInBounds_toArray, List.set_cons_zero, List.set_cons_succ]
            refine take_op (i := 39) (d := 60) (OP := Op.load 23 (Operand.tmp 59)) (T := 23) (v := ?vq159x) rfl rfl rfl rfl (by kernel_rfl) (by kernel_rfl) (by kernel_rfl) (fun _ _ _ h => h) (by rfl) ?hq159x hHeld ?rq159x
            case hq159x => (intro w' hSw; (try dsimp only at hSw); go_simp <;> with_reducible rfl)
            try simp only [Act.put, List.setIfInBounds_toArray, List.set_cons_zero, List.set_cons_succ]
            refine take_op (i := 40) (d := 61) (OP := Op.fieldAddr 47 (Operand.tmp 3) 0) (T := 0) (v := ?vq160x) rfl rfl rfl rfl (by kernel_rfl) (by kernel_rfl) (by kernel_rfl) (fun _ _ _ h => h) (by rfl) ?hq160x hHeld ?rq160x
            case hq160x => (intro w' hSw; (try dsimp only at hSw); go_simp <;> with_reducible rfl)
            try simp only [Act.put, List.setIfInBounds_toArray, List.set_cons_zero, List.set_cons_succ]
            refine take_op (i := 41) (d := 62) (OP := Op.load 23 (Operand.tmp 61)) (T := 23) (v := ?vq161x) rfl rfl rfl rfl (by kernel_rfl) (by kernel_rfl) (by kernel_rfl) (fun _ _ _ h => h) (by rfl) ?hq161x hHeld ?rq161x
            case hq161x => (intro w' hSw; (try dsimp only at hSw); go_simp <;> with_reducible rfl)
            try simp only [Act.put, List.setIfInBounds_toArray, List.set_cons_zero, List.set_cons_succ]
            refine call_op (i := 37) (d := 58) (OP := Op.call { callee := Callee.value (Operand.func 31), args := #[Operand.tmp 55, Operand.tmp 57], argTypes := #[23, 23] }) (T := 3) (f := 31) (args := #[.slice a0 N0 c0, .slice a1 N1 c1]) rfl rfl rfl rfl (by kernel_rfl) (by rfl) (by go_simp) ?_
            refine (p01 _ hBW).mono ?_
            rintro e w24x ⟨rfl, hw24⟩
            subst hw24
            refine ⟨_, rfl, hHeld, ?_⟩
            replace hHeld := hHeld
            try simp only [Act.put, List.setIfInBounds_toArray, List.set_cons_zero, List.set_cons_succ]
            refine call_op (i := 42) (d := 63) (OP := Op.call { callee := Callee.value (Operand.func 31), args := #[Operand.tmp 60, Operand.tmp 62], argTypes := #[23, 23] }) (T := 3) (f := 31) (args := #[.slice a1 N1 c1, .slice a0 N0 c0]) rfl rfl rfl rfl (by kernel_rfl) (by rfl) (by go_simp) ?_
            refine (p10 _ hBW).mono ?_
            rintro e w25x ⟨rfl, hw25⟩
            subst hw25
            refine ⟨_, rfl, hHeld, ?_⟩
            replace hHeld := hHeld
            try simp only [Act.put, List.setIfInBounds_toArray, List.set_cons_zero, List.set_cons_succ]
            refine take_op (i := 43) (d := 64) (OP := Op.unOp UnOp.neg 3 (Operand.tmp 63)) (T := 3) (v := ?vq164x) rfl rfl rfl rfl (by kernel_rfl) (by kernel_rfl) (by kernel_rfl) (fun _ _ _ h => h) (by rfl) ?hq164x hHeld ?rq164x
            case hq164x => (intro w' hSw; (try dsimp only at hSw); go_simp <;> with_reducible rfl)
            try simp only [Act.put, List.setIfInBounds_toArray, List.set_cons_zero, List.set_cons_succ]
            refine take_op (i := 44) (d := 65) (OP := Op.binOp BinOp.neq 3 (Operand.tmp 58) (Operand.tmp 64) 3) (T := 4) (v := ?vq165x) rfl rfl rfl rfl (by kernel_rfl) (by kernel_rfl) (by kernel_rfl) (fun _ _ _ h => h) (by rfl) ?hq165x hHeld ?rq165x
            case hq165x => (intro w' hSw; (try dsimp only at hSw); go_simp <;> with_reducible rfl)
            try simp only [Act.put, List.setIfInBounds_toArray, List.set_cons_zero, List.set_cons_succ]
            refine take_op (i := 45) (d := 66) (OP := Op.pick (Operand.tmp 53) (Operand.const (Value.bool true)) (Operand.tmp 65)) (T := 4) (v := ?vq166x) rfl rfl rfl rfl (by kernel_rfl) (by kernel_rfl) (by kernel_rfl) (fun _ _ _ h => h) (by rfl) ?hq166x hHeld ?rq166x
            case hq166x => (intro w' hSw; (try dsimp only at hSw); go_simp <;> with_reducible rfl)
            try simp only [Act.put, List.setIfInBounds_toArray, List.set_cons_zero, List.set_cons_succ]
            refine take_op (i := 46) (d := 67) (OP := Op.move (Operand.tmp 66)) (T := 4) (v := ?vq167x) rfl rfl rfl rfl (by kernel_rfl) (by kernel_rfl) (by kernel_rfl) (fun _ _ _ h => h) (by rfl) ?hq167x hHeld ?rq167x
            case hq167x => (intro w' hSw; (try dsimp only at hSw); go_simp <;> with_reducible rfl)
            try simp only [Act.put, List.setIfInBounds_toArray, List.set_cons_zero, List.set_cons_succ]
            refine take_op (i := 47) (d := 68) (OP := Op.fieldAddr 47 (Operand.tmp 3) 2) (T := 0) (v := ?vq168x) rfl rfl rfl rfl (by kernel_rfl) (by kernel_rfl) (by kernel_rfl) (fun _ _ _ h => h) (by rfl) ?hq168x hHeld ?rq168x
            case hq168x => (intro w' hSw; (try dsimp only at hSw); go_simp <;> with_reducible rfl)
            try simp only [Act.put, List.setIfInBounds_toArray, List.set_cons_zero, List.set_cons_succ]
            refine take_op (i := 48) (d := 69) (OP := Op.load 9 (Operand.tmp 68)) (T := 9) (v := ?vq169x) rfl rfl rfl rfl (by kernel_rfl) (by kernel_rfl) (by kernel_rfl) (fun _ _ _ h => h) (by rfl) ?hq169x hHeld ?rq169x
            case hq169x => (intro w' hSw; (try dsimp only at hSw); go_simp <;> with_reducible rfl)
            try simp only [Act.put, List.setIfInBounds_toArray, List.set_cons_zero, List.set_cons_succ]
            refine take_op (i := 49) (d := 70) (OP := Op.fieldAddr 47 (Operand.tmp 4) 2) (T := 0) (v := ?vq170x) rfl rfl rfl rfl (by kernel_rfl) (by kernel_rfl) (by kernel_rfl) (fun _ _ _ h => h) (by rfl) ?hq170x hHeld ?rq170x
            case hq170x => (intro w' hSw; (try dsimp only at hSw); go_simp <;> with_reducible rfl)
            try simp only [Act.put, List.setIfInBounds_toArray, List.set_cons_zero, List.set_cons_succ]
            refine take_op (i := 50) (d := 71) (OP := Op.load 9 (Operand.tmp 70)) (T := 9) (v := ?vq171x) rfl rfl rfl rfl (by kernel_rfl) (by kernel_rfl) (by kernel_rfl) (fun _ _ _ h => h) (by rfl) ?hq171x hHeld ?rq171x
            case hq171x => (intro w' hSw; (try dsimp only at hSw); go_simp <;> with_reducible rfl)
            try simp only [Act.put, List.setIfInBounds_toArray, List.set_cons_zero, List.set_cons_succ]
            refine take_op (i := 52) (d := 73) (OP := Op.fieldAddr 47 (Operand.tmp 4) 2) (T := 0) (v := ?vq172x) rfl rfl rfl rfl (by kernel_rfl) (by kernel_rfl) (by kernel_rfl) (fun _ _ _ h => h) (by rfl) ?hq172x hHeld ?rq172x
            case hq172x => (intro w' hSw; (try dsimp only at hSw); go_simp <;> with_reducible rfl)
            try simp only [Act.put, List.setIfInBounds_toArray, List.set_cons_zero, List.set_cons_succ]
            refine take_op (i := 53) (d := 74) (OP := Op.load 9 (Operand.tmp 73)) (T := 9) (v := ?vq173x) rfl rfl rfl rfl (by kernel_rfl) (by kernel_rfl) (by kernel_rfl) (fun _ _ _ h => h) (by rfl) ?hq173x hHeld ?rq173x
            case hq173x => (intro w' hSw; (try dsimp only at hSw); go_simp <;> with_reducible rfl)
            try simp only [Act.put, List.setIfInBounds_toArray, List.set_cons_zero, List.set_cons_succ]
            refine take_op (i := 54) (d := 75) (OP := Op.fieldAddr 47 (Operand.tmp 3) 2) (T := 0) (v := ?vq174x) rfl rfl rfl rfl (by kernel_rfl) (by kernel_rfl) (by kernel_rfl) (fun _ _ _ h => h) (by rfl) ?hq174x hHeld ?rq174x
            case hq174x => (intro w' hSw; (try dsimp only at hSw); go_simp <;> with_reducible rfl)
            try simp only [Act.put, List.setIfInBounds_toArray, List.set_cons_zero, List.set_cons_succ]
            refine take_op (i := 55) (d := 76) (OP := Op.load 9 (Operand.tmp 75)) (T := 9) (v := ?vq175x) rfl rfl rfl rfl (by kernel_rfl) (by kernel_rfl) (by kernel_rfl) (fun _ _ _ h => h) (by rfl) ?hq175x hHeld ?rq175x
            case hq175x => (intro w' hSw; (try dsimp only at hSw); go_simp <;> with_reducible rfl)
            try simp only [Act.put, List.setIfInBounds_toArray, List.set_cons_zero, List.set_cons_succ]
            refine call_op (i := 51) (d := 72) (OP := Op.call { callee := Callee.value (Operand.func 29), args := #[Operand.tmp 69, Operand.tmp 71], argTypes := #[9, 9] }) (T := 3) (f := 29) (args := #[.string s0, .string s1]) rfl rfl rfl rfl (by kernel_rfl) (by rfl) (by go_simp) ?_
            refine (q01 _).mono ?_
            rintro e w26x ⟨rfl, hw26⟩
            subst hw26
            refine ⟨_, rfl, hHeld, ?_⟩
            replace hHeld := hHeld
            try simp only [Act.put, List.setIfInBounds_toArray, List.set_cons_zero, List.set_cons_succ]
            refine call_op (i := 56) (d := 77) (OP := Op.call { callee := Callee.value (Operand.func 29), args := #[Operand.tmp 74, Operand.tmp 76], argTypes := #[9, 9] }) (T := 3) (f := 29) (args := #[.string s1, .string s0]) rfl rfl rfl rfl (by kernel_rfl) (by rfl) (by go_simp) ?_
            refine (q10 _).mono ?_
            rintro e w27x ⟨rfl, hw27⟩
            subst hw27
            refine ⟨_, rfl, hHeld, ?_⟩
            replace hHeld := hHeld
            try simp only [Act.put, List.setIfInBounds_toArray, List.set_cons_zero, List.set_cons_succ]
            refine take_op (i := 57) (d := 78) (OP := Op.unOp UnOp.neg 3 (Operand.tmp 77)) (T := 3) (v := ?vq178x) rfl rfl rfl rfl (by kernel_rfl) (by kernel_rfl) (by kernel_rfl) (fun _ _ _ h => h) (by rfl) ?hq178x hHeld ?rq178x
            case hq178x => (intro w' hSw; (try dsimp only at hSw); go_simp <;> with_reducible rfl)
            try simp only [Act.put, List.setIfInBounds_toArray, List.set_cons_zero, List.set_cons_succ]
            refine take_op (i := 58) (d := 79) (OP := Op.binOp BinOp.neq 3 (Operand.tmp 72) (Operand.tmp 78) 3) (T := 4) (v := ?vq179x) rfl rfl rfl rfl (by kernel_rfl) (by kernel_rfl) (by kernel_rfl) (fun _ _ _ h => h) (by rfl) ?hq179x hHeld ?rq179x
            case hq179x => (intro w' hSw; (try dsimp only at hSw); go_simp <;> with_reducible rfl)
            try simp only [Act.put, List.setIfInBounds_toArray, List.set_cons_zero, List.set_cons_succ]
            refine take_op (i := 59) (d := 80) (OP := Op.pick (Operand.tmp 67) (Operand.const (Value.bool true)) (Operand.tmp 79)) (T := 4) (v := ?vq180x) rfl rfl rfl rfl (by kernel_rfl) (by kernel_rfl) (by kernel_rfl) (fun _ _ _ h => h) (by rfl) ?hq180x hHeld ?rq180x
            case hq180x => (intro w' hSw; (try dsimp only at hSw); go_simp <;> with_reducible rfl)
            try simp only [Act.put, List.setIfInBounds_toArray, List.set_cons_zero, List.set_cons_succ]
            refine wpAnyH_done (by kernel_rfl) ?_ _
            go_wp2
            go_meet
            exact ⟨rfl, hide ⟨HPP.out.1.below hBC, HPP.out.2.1.below hBC, hBW⟩⟩
          · clear gtr
            refine wp_region_held_drew (S := (fun w' => w'.cell? ⟨A, 0, none⟩ = some (.slice a0 N0 c0) ∧ w'.cell? ⟨A, 1, none⟩ = some (.int .i64 x0) ∧ w'.cell? ⟨A, 2, none⟩ = some (.string s0) ∧ w'.cell? ⟨B, 0, none⟩ = some (.slice a1 N1 c1) ∧ w'.cell? ⟨B, 1, none⟩ = some (.int .i64 x1) ∧ w'.cell? ⟨B, 2, none⟩ = some (.string s1) ∧ w'.cell? ⟨C, 0, none⟩ = some (.slice a2 N2 c2) ∧ w'.cell? ⟨C, 1, none⟩ = some (.int .i64 x2) ∧ w'.cell? ⟨C, 2, none⟩ = some (.string s2))) (by kernel_rfl) (by exact hS0) (fun hHeld => ?_)
            try dsimp only at hHeld
            refine take_op (i := 0) (d := 21) (OP := Op.load 47 (Operand.tmp 3)) (T := 47) (v := ?vq61x) rfl rfl rfl rfl (by kernel_rfl) (by kernel_rfl) (by kernel_rfl) (fun _ _ _ h => h) (by rfl) ?hq61x hHeld ?rq61x
            case hq61x => (intro w' hSw; (try dsimp only at hSw); go_simp <;> with_reducible rfl)
            try simp only [Act.put, List.setIfInBounds_toArray, List.set_cons_zero, List.set_cons_succ]
            refine take_op (i := 1) (d := 22) (OP := Op.load 47 (Operand.tmp 4)) (T := 47) (v := ?vq62x) rfl rfl rfl rfl (by kernel_rfl) (by kernel_rfl) (by kernel_rfl) (fun _ _ _ h => h) (by rfl) ?hq62x hHeld ?rq62x
            case hq62x => (intro w' hSw; (try dsimp only at hSw); go_simp <;> with_reducible rfl)
            try simp only [Act.put, List.setIfInBounds_toArray, List.set_cons_zero, List.set_cons_succ]
            refine take_op (i := 3) (d := 24) (OP := Op.load 47 (Operand.tmp 4)) (T := 47) (v := ?vq63x) rfl rfl rfl rfl (by kernel_rfl) (by kernel_rfl) (by kernel_rfl) (fun _ _ _ h => h) (by rfl) ?hq63x hHeld ?rq63x
            case hq63x => (intro w' hSw; (try dsimp only at hSw); go_simp <;> with_reducible rfl)
            try simp only [Act.put, List.setIfInBounds_toArray, List.set_cons_zero, List.set_cons_succ]
            refine take_op (i := 4) (d := 25) (OP := Op.load 47 (Operand.tmp 3)) (T := 47) (v := ?vq64x) rfl rfl rfl rfl (by kernel_rfl) (by kernel_rfl) (by kernel_rfl) (fun _ _ _ h => h) (by rfl) ?hq64x hHeld ?rq64x
            case hq64x => (intro w' hSw; (try dsimp only at hSw); go_simp <;> with_reducible rfl)
            try simp only [Act.put, List.setIfInBounds_toArray, List.set_cons_zero, List.set_cons_succ]
            refine call_op (i := 2) (d := 23) (OP := Op.call { callee := Callee.value (Operand.func 33), args := #[Operand.tmp 21, Operand.tmp 22], argTypes := #[47, 47] }) (T := 3) (f := 33) (args := #[plv a0 N0 c0 x0 s0, plv a1 N1 c1 x1 s1]) rfl rfl rfl rfl (by kernel_rfl) (by rfl) (by go_simp) ?_
            refine (k01 _ hBW).mono ?_
            rintro e w9x ⟨rfl, bb⟩
            have hS9x : w9x.cell? ⟨A, 0, none⟩ = some (.slice a0 N0 c0) ∧ w9x.cell? ⟨A, 1, none⟩ = some (.int .i64 x0) ∧ w9x.cell? ⟨A, 2, none⟩ = some (.string s0) ∧ w9x.cell? ⟨B, 0, none⟩ = some (.slice a1 N1 c1) ∧ w9x.cell? ⟨B, 1, none⟩ = some (.int .i64 x1) ∧ w9x.cell? ⟨B, 2, none⟩ = some (.string s1) ∧ w9x.cell? ⟨C, 0, none⟩ = some (.slice a2 N2 c2) ∧ w9x.cell? ⟨C, 1, none⟩ = some (.int .i64 x2) ∧ w9x.cell? ⟨C, 2, none⟩ = some (.string s2) := ⟨(bb.cell (World.block_lt_of_cell? _ _ hHeld.1)).trans hHeld.1, (bb.cell (World.block_lt_of_cell? _ _ hHeld.2.1)).trans hHeld.2.1, (bb.cell (World.block_lt_of_cell? _ _ hHeld.2.2.1)).trans hHeld.2.2.1, (bb.cell (World.block_lt_of_cell? _ _ hHeld.2.2.2.1)).trans hHeld.2.2.2.1, (bb.cell (World.block_lt_of_cell? _ _ hHeld.2.2.2.2.1)).trans hHeld.2.2.2.2.1, (bb.cell (World.block_lt_of_cell? _ _ hHeld.2.2.2.2.2.1)).trans hHeld.2.2.2.2.2.1, (bb.cell (World.block_lt_of_cell? _ _ hHeld.2.2.2.2.2.2.1)).trans hHeld.2.2.2.2.2.2.1, (bb.cell (World.block_lt_of_cell? _ _ hHeld.2.2.2.2.2.2.2.1)).trans hHeld.2.2.2.2.2.2.2.1, (bb.cell (World.block_lt_of_cell? _ _ hHeld.2.2.2.2.2.2.2.2)).trans hHeld.2.2.2.2.2.2.2.2⟩
            replace hBW := hBW.trans (bb.mono hBW.size)
            replace hBC := hBC.trans (bb.mono hBC.size)
            clear bb
            refine ⟨_, rfl, hS9x, ?_⟩
            replace hHeld := hS9x
            try simp only [Act.put, List.setIfInBounds_toArray, List.set_cons_zero, List.set_cons_succ]
            refine call_op (i := 5) (d := 26) (OP := Op.call { callee := Callee.value (Operand.func 33), args := #[Operand.tmp 24, Operand.tmp 25], argTypes := #[47, 47] }) (T := 3) (f := 33) (args := #[plv a1 N1 c1 x1 s1, plv a0 N0 c0 x0 s0]) rfl rfl rfl rfl (by kernel_rfl) (by rfl) (by go_simp) ?_
            refine (k10 _ hBW).mono ?_
            rintro e w10x ⟨rfl, bb⟩
            have hS10x : w10x.cell? ⟨A, 0, none⟩ = some (.slice a0 N0 c0) ∧ w10x.cell? ⟨A, 1, none⟩ = some (.int .i64 x0) ∧ w10x.cell? ⟨A, 2, none⟩ = some (.string s0) ∧ w10x.cell? ⟨B, 0, none⟩ = some (.slice a1 N1 c1) ∧ w10x.cell? ⟨B, 1, none⟩ = some (.int .i64 x1) ∧ w10x.cell? ⟨B, 2, none⟩ = some (.string s1) ∧ w10x.cell? ⟨C, 0, none⟩ = some (.slice a2 N2 c2) ∧ w10x.cell? ⟨C, 1, none⟩ = some (.int .i64 x2) ∧ w10x.cell? ⟨C, 2, none⟩ = some (.string s2) := ⟨(bb.cell (World.block_lt_of_cell? _ _ hHeld.1)).trans hHeld.1, (bb.cell (World.block_lt_of_cell? _ _ hHeld.2.1)).trans hHeld.2.1, (bb.cell (World.block_lt_of_cell? _ _ hHeld.2.2.1)).trans hHeld.2.2.1, (bb.cell (World.block_lt_of_cell? _ _ hHeld.2.2.2.1)).trans hHeld.2.2.2.1, (bb.cell (World.block_lt_of_cell? _ _ hHeld.2.2.2.2.1)).trans hHeld.2.2.2.2.1, (bb.cell (World.block_lt_of_cell? _ _ hHeld.2.2.2.2.2.1)).trans hHeld.2.2.2.2.2.1, (bb.cell (World.block_lt_of_cell? _ _ hHeld.2.2.2.2.2.2.1)).trans hHeld.2.2.2.2.2.2.1, (bb.cell (World.block_lt_of_cell? _ _ hHeld.2.2.2.2.2.2.2.1)).trans hHeld.2.2.2.2.2.2.2.1, (bb.cell (World.block_lt_of_cell? _ _ hHeld.2.2.2.2.2.2.2.2)).trans hHeld.2.2.2.2.2.2.2.2⟩
            replace hBW := hBW.trans (bb.mono hBW.size)
            replace hBC := hBC.trans (bb.mono hBC.size)
            clear bb
            refine ⟨_, rfl, hS10x, ?_⟩
            replace hHeld := hS10x
            try simp only [Act.put, List.setIfInBounds_toArray, List.set_cons_zero, List.set_cons_succ]
            refine take_op (i := 6) (d := 27) (OP := Op.unOp UnOp.neg 3 (Operand.tmp 26)) (T := 3) (v := ?vq67x) rfl rfl rfl rfl (by kernel_rfl) (by kernel_rfl) (by kernel_rfl) (fun _ _ _ h => h) (by rfl) ?hq67x hHeld ?rq67x
            case hq67x => (intro w' hSw; (try dsimp only at hSw); go_simp <;> with_reducible rfl)
            try simp only [Act.put, List.setIfInBounds_toArray, List.set_cons_zero, List.set_cons_succ]
            refine take_op (i := 7) (d := 28) (OP := Op.binOp BinOp.neq 3 (Operand.tmp 23) (Operand.tmp 27) 3) (T := 4) (v := ?vq68x) rfl rfl rfl rfl (by kernel_rfl) (by kernel_rfl) (by kernel_rfl) (fun _ _ _ h => h) (by rfl) ?hq68x hHeld ?rq68x
            case hq68x => (intro w' hSw; (try dsimp only at hSw); go_simp <;> with_reducible rfl)
            try simp only [Act.put, List.setIfInBounds_toArray, List.set_cons_zero, List.set_cons_succ]
            refine take_op (i := 8) (d := 29) (OP := Op.move (Operand.tmp 28)) (T := 4) (v := ?vq69x) rfl rfl rfl rfl (by kernel_rfl) (by kernel_rfl) (by kernel_rfl) (fun _ _ _ h => h) (by rfl) ?hq69x hHeld ?rq69x
            case hq69x => (intro w' hSw; (try dsimp only at hSw); go_simp <;> with_reducible rfl)
            try simp only [Act.put, List.setIfInBounds_toArray, List.set_cons_zero, List.set_cons_succ]
            refine take_op (i := 9) (d := 30) (OP := Op.load 47 (Operand.tmp 3)) (T := 47) (v := ?vq70x) rfl rfl rfl rfl (by kernel_rfl) (by kernel_rfl) (by kernel_rfl) (fun _ _ _ h => h) (by rfl) ?hq70x hHeld ?rq70x
            case hq70x => (intro w' hSw; (try dsimp only at hSw); go_simp <;> with_reducible rfl)
            try simp only [Act.put, List.setIfInBounds_toArray, List.set_cons_zero, List.set_cons_succ]
            refine take_op (i := 10) (d := 31) (OP := Op.load 47 (Operand.tmp 3)) (T := 47) (v := ?vq71x) rfl rfl rfl rfl (by kernel_rfl) (by kernel_rfl) (by kernel_rfl) (fun _ _ _ h => h) (by rfl) ?hq71x hHeld ?rq71x
            case hq71x => (intro w' hSw; (try dsimp only at hSw); go_simp <;> with_reducible rfl)
            try simp only [Act.put, List.setIfInBounds_toArray, List.set_cons_zero, List.set_cons_succ]
            refine call_op (i := 11) (d := 32) (OP := Op.call { callee := Callee.value (Operand.func 33), args := #[Operand.tmp 30, Operand.tmp 31], argTypes := #[47, 47] }) (T := 3) (f := 33) (args := #[plv a0 N0 c0 x0 s0, plv a0 N0 c0 x0 s0]) rfl rfl rfl rfl (by kernel_rfl) (by rfl) (by go_simp) ?_
            refine (k00 _ hBW).mono ?_
            rintro e w11x ⟨rfl, bb⟩
            have hS11x : w11x.cell? ⟨A, 0, none⟩ = some (.slice a0 N0 c0) ∧ w11x.cell? ⟨A, 1, none⟩ = some (.int .i64 x0) ∧ w11x.cell? ⟨A, 2, none⟩ = some (.string s0) ∧ w11x.cell? ⟨B, 0, none⟩ = some (.slice a1 N1 c1) ∧ w11x.cell? ⟨B, 1, none⟩ = some (.int .i64 x1) ∧ w11x.cell? ⟨B, 2, none⟩ = some (.string s1) ∧ w11x.cell? ⟨C, 0, none⟩ = some (.slice a2 N2 c2) ∧ w11x.cell? ⟨C, 1, none⟩ = some (.int .i64 x2) ∧ w11x.cell? ⟨C, 2, none⟩ = some (.string s2) := ⟨(bb.cell (World.block_lt_of_cell? _ _ hHeld.1)).trans hHeld.1, (bb.cell (World.block_lt_of_cell? _ _ hHeld.2.1)).trans hHeld.2.1, (bb.cell (World.block_lt_of_cell? _ _ hHeld.2.2.1)).trans hHeld.2.2.1, (bb.cell (World.block_lt_of_cell? _ _ hHeld.2.2.2.1)).trans hHeld.2.2.2.1, (bb.cell (World.block_lt_of_cell? _ _ hHeld.2.2.2.2.1)).trans hHeld.2.2.2.2.1, (bb.cell (World.block_lt_of_cell? _ _ hHeld.2.2.2.2.2.1)).trans hHeld.2.2.2.2.2.1, (bb.cell (World.block_lt_of_cell? _ _ hHeld.2.2.2.2.2.2.1)).trans hHeld.2.2.2.2.2.2.1, (bb.cell (World.block_lt_of_cell? _ _ hHeld.2.2.2.2.2.2.2.1)).trans hHeld.2.2.2.2.2.2.2.1, (bb.cell (World.block_lt_of_cell? _ _ hHeld.2.2.2.2.2.2.2.2)).trans hHeld.2.2.2.2.2.2.2.2⟩
            replace hBW := hBW.trans (bb.mono hBW.size)
            replace hBC := hBC.trans (bb.mono hBC.size)
            clear bb
            refine ⟨_, rfl, hS11x, ?_⟩
            replace hHeld := hS11x
            try simp only [Act.put, List.setIfInBounds_toArray, List.set_cons_zero, List.set_cons_succ]
            refine take_op (i := 12) (d := 33) (OP := Op.binOp BinOp.neq 3 (Operand.tmp 32) (Operand.const (Value.int IntKind.i64 0)) 3) (T := 4) (v := ?vq73x) rfl rfl rfl rfl (by kernel_rfl) (by kernel_rfl) (by kernel_rfl) (fun _ _ _ h => h) (by rfl) ?hq73x hHeld ?rq73x
            case hq73x => (intro w' hSw; (try dsimp only at hSw); go_simp <;> with_reducible rfl)
            try simp only [Act.put, List.setIfInBounds_toArray, List.set_cons_zero, List.set_cons_succ]
            refine take_op (i := 13) (d := 34) (OP := Op.pick (Operand.tmp 29) (Operand.const (Value.bool true)) (Operand.tmp 33)) (T := 4) (v := ?vq74x) rfl rfl rfl rfl (by kernel_rfl) (by kernel_rfl) (by kernel_rfl) (fun _ _ _ h => h) (by rfl) ?hq74x hHeld ?rq74x
            case hq74x => (intro w' hSw; (try dsimp only at hSw); go_simp <;> with_reducible rfl)
            try simp only [Act.put, List.setIfInBounds_toArray, List.set_cons_zero, List.set_cons_succ]
            refine take_op (i := 14) (d := 35) (OP := Op.move (Operand.tmp 34)) (T := 4) (v := ?vq75x) rfl rfl rfl rfl (by kernel_rfl) (by kernel_rfl) (by kernel_rfl) (fun _ _ _ h => h) (by rfl) ?hq75x hHeld ?rq75x
            case hq75x => (intro w' hSw; (try dsimp only at hSw); go_simp <;> with_reducible rfl)
            try simp only [Act.put, List.setIfInBounds_toArray, List.set_cons_zero, List.set_cons_succ]
            refine take_op (i := 15) (d := 36) (OP := Op.load 47 (Operand.tmp 3)) (T := 47) (v := ?vq76x) rfl rfl rfl rfl (by kernel_rfl) (by kernel_rfl) (by kernel_rfl) (fun _ _ _ h => h) (by rfl) ?hq76x hHeld ?rq76x
            case hq76x => (intro w' hSw; (try dsimp only at hSw); go_simp <;> with_reducible rfl)
            try simp only [Act.put, List.setIfInBounds_toArray, List.set_cons_zero, List.set_cons_succ]
            refine take_op (i := 16) (d := 37) (OP := Op.load 47 (Operand.tmp 4)) (T := 47) (v := ?vq77x) rfl rfl rfl rfl (by kernel_rfl) (by kernel_rfl) (by kernel_rfl) (fun _ _ _ h => h) (by rfl) ?hq77x hHeld ?rq77x
            case hq77x => (intro w' hSw; (try dsimp only at hSw); go_simp <;> with_reducible rfl)
            try simp only [Act.put, List.setIfInBounds_toArray, List.set_cons_zero, List.set_cons_succ]
            refine call_op (i := 17) (d := 38) (OP := Op.call { callee := Callee.value (Operand.func 33), args := #[Operand.tmp 36, Operand.tmp 37], argTypes := #[47, 47] }) (T := 3) (f := 33) (args := #[plv a0 N0 c0 x0 s0, plv a1 N1 c1 x1 s1]) rfl rfl rfl rfl (by kernel_rfl) (by rfl) (by go_simp) ?_
            refine (k01 _ hBW).mono ?_
            rintro e w12x ⟨rfl, bb⟩
            have hS12x : w12x.cell? ⟨A, 0, none⟩ = some (.slice a0 N0 c0) ∧ w12x.cell? ⟨A, 1, none⟩ = some (.int .i64 x0) ∧ w12x.cell? ⟨A, 2, none⟩ = some (.string s0) ∧ w12x.cell? ⟨B, 0, none⟩ = some (.slice a1 N1 c1) ∧ w12x.cell? ⟨B, 1, none⟩ = some (.int .i64 x1) ∧ w12x.cell? ⟨B, 2, none⟩ = some (.string s1) ∧ w12x.cell? ⟨C, 0, none⟩ = some (.slice a2 N2 c2) ∧ w12x.cell? ⟨C, 1, none⟩ = some (.int .i64 x2) ∧ w12x.cell? ⟨C, 2, none⟩ = some (.string s2) := ⟨(bb.cell (World.block_lt_of_cell? _ _ hHeld.1)).trans hHeld.1, (bb.cell (World.block_lt_of_cell? _ _ hHeld.2.1)).trans hHeld.2.1, (bb.cell (World.block_lt_of_cell? _ _ hHeld.2.2.1)).trans hHeld.2.2.1, (bb.cell (World.block_lt_of_cell? _ _ hHeld.2.2.2.1)).trans hHeld.2.2.2.1, (bb.cell (World.block_lt_of_cell? _ _ hHeld.2.2.2.2.1)).trans hHeld.2.2.2.2.1, (bb.cell (World.block_lt_of_cell? _ _ hHeld.2.2.2.2.2.1)).trans hHeld.2.2.2.2.2.1, (bb.cell (World.block_lt_of_cell? _ _ hHeld.2.2.2.2.2.2.1)).trans hHeld.2.2.2.2.2.2.1, (bb.cell (World.block_lt_of_cell? _ _ hHeld.2.2.2.2.2.2.2.1)).trans hHeld.2.2.2.2.2.2.2.1, (bb.cell (World.block_lt_of_cell? _ _ hHeld.2.2.2.2.2.2.2.2)).trans hHeld.2.2.2.2.2.2.2.2⟩
            replace hBW := hBW.trans (bb.mono hBW.size)
            replace hBC := hBC.trans (bb.mono hBC.size)
            clear bb
            refine ⟨_, rfl, hS12x, ?_⟩
            replace hHeld := hS12x
            try simp only [Act.put, List.setIfInBounds_toArray, List.set_cons_zero, List.set_cons_succ]
            refine take_op (i := 18) (d := 39) (OP := Op.binOp BinOp.leq 3 (Operand.tmp 38) (Operand.const (Value.int IntKind.i64 0)) 3) (T := 4) (v := ?vq79x) rfl rfl rfl rfl (by kernel_rfl) (by kernel_rfl) (by kernel_rfl) (fun _ _ _ h => h) (by rfl) ?hq79x hHeld ?rq79x
            case hq79x => (intro w' hSw; (try dsimp only at hSw); go_simp <;> with_reducible rfl)
            try simp only [Act.put, List.setIfInBounds_toArray, List.set_cons_zero, List.set_cons_succ]
            refine take_op (i := 19) (d := 40) (OP := Op.move (Operand.tmp 39)) (T := 4) (v := ?vq80x) rfl rfl rfl rfl (by kernel_rfl) (by kernel_rfl) (by kernel_rfl) (fun _ _ _ h => h) (by rfl) ?hq80x hHeld ?rq80x
            case hq80x => (intro w' hSw; (try dsimp only at hSw); go_simp <;> with_reducible rfl)
            try simp only [Act.put, List.setIfInBounds_toArray, List.set_cons_zero, List.set_cons_succ]
            refine take_op (i := 20) (d := 41) (OP := Op.load 47 (Operand.tmp 4)) (T := 47) (v := ?vq81x) rfl rfl rfl rfl (by kernel_rfl) (by kernel_rfl) (by kernel_rfl) (fun _ _ _ h => h) (by rfl) ?hq81x hHeld ?rq81x
            case hq81x => (intro w' hSw; (try dsimp only at hSw); go_simp <;> with_reducible rfl)
            try simp only [Act.put, List.setIfInBounds_toArray, List.set_cons_zero, List.set_cons_succ]
            refine take_op (i := 21) (d := 42) (OP := Op.load 47 (Operand.tmp 5)) (T := 47) (v := ?vq82x) rfl rfl rfl rfl (by kernel_rfl) (by kernel_rfl) (by kernel_rfl) (fun _ _ _ h => h) (by rfl) ?hq82x hHeld ?rq82x
            case hq82x => (intro w' hSw; (try dsimp only at hSw); go_simp <;> with_reducible rfl)
            try simp only [Act.put, List.setIfInBounds_toArray, List.set_cons_zero, List.set_cons_succ]
            refine call_op (i := 22) (d := 43) (OP := Op.call { callee := Callee.value (Operand.func 33), args := #[Operand.tmp 41, Operand.tmp 42], argTypes := #[47, 47] }) (T := 3) (f := 33) (args := #[plv a1 N1 c1 x1 s1, plv a2 N2 c2 x2 s2]) rfl rfl rfl rfl (by kernel_rfl) (by rfl) (by go_simp) ?_
            refine (k12 _ hBW).mono ?_
            rintro e w13x ⟨rfl, bb⟩
            have hS13x : w13x.cell? ⟨A, 0, none⟩ = some (.slice a0 N0 c0) ∧ w13x.cell? ⟨A, 1, none⟩ = some (.int .i64 x0) ∧ w13x.cell? ⟨A, 2, none⟩ = some (.string s0) ∧ w13x.cell? ⟨B, 0, none⟩ = some (.slice a1 N1 c1) ∧ w13x.cell? ⟨B, 1, none⟩ = some (.int .i64 x1) ∧ w13x.cell? ⟨B, 2, none⟩ = some (.string s1) ∧ w13x.cell? ⟨C, 0, none⟩ = some (.slice a2 N2 c2) ∧ w13x.cell? ⟨C, 1, none⟩ = some (.int .i64 x2) ∧ w13x.cell? ⟨C, 2, none⟩ = some (.string s2) := ⟨(bb.cell (World.block_lt_of_cell? _ _ hHeld.1)).trans hHeld.1, (bb.cell (World.block_lt_of_cell? _ _ hHeld.2.1)).trans hHeld.2.1, (bb.cell (World.block_lt_of_cell? _ _ hHeld.2.2.1)).trans hHeld.2.2.1, (bb.cell (World.block_lt_of_cell? _ _ hHeld.2.2.2.1)).trans hHeld.2.2.2.1, (bb.cell (World.block_lt_of_cell? _ _ hHeld.2.2.2.2.1)).trans hHeld.2.2.2.2.1, (bb.cell (World.block_lt_of_cell? _ _ hHeld.2.2.2.2.2.1)).trans hHeld.2.2.2.2.2.1, (bb.cell (World.block_lt_of_cell? _ _ hHeld.2.2.2.2.2.2.1)).trans hHeld.2.2.2.2.2.2.1, (bb.cell (World.block_lt_of_cell? _ _ hHeld.2.2.2.2.2.2.2.1)).trans hHeld.2.2.2.2.2.2.2.1, (bb.cell (World.block_lt_of_cell? _ _ hHeld.2.2.2.2.2.2.2.2)).trans hHeld.2.2.2.2.2.2.2.2⟩
            replace hBW := hBW.trans (bb.mono hBW.size)
            replace hBC := hBC.trans (bb.mono hBC.size)
            clear bb
            refine ⟨_, rfl, hS13x, ?_⟩
            replace hHeld := hS13x
            try simp only [Act.put, List.setIfInBounds_toArray, List.set_cons_zero, List.set_cons_succ]
            refine take_op (i := 23) (d := 44) (OP := Op.binOp BinOp.leq 3 (Operand.tmp 43) (Operand.const (Value.int IntKind.i64 0)) 3) (T := 4) (v := ?vq84x) rfl rfl rfl rfl (by kernel_rfl) (by kernel_rfl) (by kernel_rfl) (fun _ _ _ h => h) (by rfl) ?hq84x hHeld ?rq84x
            case hq84x => (intro w' hSw; (try dsimp only at hSw); go_simp <;> with_reducible rfl)
            try simp only [Act.put, List.setIfInBounds_toArray, List.set_cons_zero, List.set_cons_succ]
            refine take_op (i := 24) (d := 45) (OP := Op.pick (Operand.tmp 40) (Operand.tmp 44) (Operand.const (Value.bool false))) (T := 4) (v := ?vq85x) rfl rfl rfl rfl (by kernel_rfl) (by kernel_rfl) (by kernel_rfl) (fun _ _ _ h => h) (by rfl) ?hq85x hHeld ?rq85x
            case hq85x => (intro w' hSw; (try dsimp only at hSw); go_simp <;> with_reducible rfl)
            try simp only [Act.put, List.setIfInBounds_toArray, List.set_cons_zero, List.set_cons_succ]
            refine take_op (i := 25) (d := 46) (OP := Op.move (Operand.tmp 45)) (T := 4) (v := ?vq86x) rfl rfl rfl rfl (by kernel_rfl) (by kernel_rfl) (by kernel_rfl) (fun _ _ _ h => h) (by rfl) ?hq86x hHeld ?rq86x
            case hq86x => (intro w' hSw; (try dsimp only at hSw); go_simp <;> with_reducible rfl)
            try simp only [Act.put, List.setIfInBounds_toArray, List.set_cons_zero, List.set_cons_succ]
            refine pass_op (i := 26) (d := 47) rfl rfl (by kernel_rfl) (by kernel_rfl) (by kernel_rfl) (fun _ _ _ h => h) (by rfl) hHeld ?rq87x
            try simp only [Act.put, List.setIfInBounds_toArray, List.set_cons_zero, List.set_cons_succ]
            refine pass_op (i := 27) (d := 48) rfl rfl (by kernel_rfl) (by kernel_rfl) (by kernel_rfl) (fun _ _ _ h => h) (by rfl) hHeld ?rq88x
            try simp only [Act.put, List.setIfInBounds_toArray, List.set_cons_zero, List.set_cons_succ]
            refine pass_op (i := 28) (d := 49) rfl rfl (by kernel_rfl) (by kernel_rfl) (by kernel_rfl) (fun _ _ _ h => h) (by rfl) hHeld ?rq89x
            try simp only [Act.put, List.setIfInBounds_toArray, List.set_cons_zero, List.set_cons_succ]
            refine pass_op (i := 29) (d := 50) rfl rfl (by kernel_rfl) (by kernel_rfl) (by kernel_rfl) (fun _ _ _ h => h) (by rfl) hHeld ?rq90x
            try simp only [Act.put, List.setIfInBounds_toArray, List.set_cons_zero, List.set_cons_succ]
            refine take_op (i := 30) (d := 51) (OP := Op.pick (Operand.tmp 46) (Operand.tmp 50) (Operand.const (Value.bool false))) (T := 4) (v := ?vq91x) rfl rfl rfl rfl (by kernel_rfl) (by kernel_rfl) (by kernel_rfl) (fun _ _ _ h => h) (by rfl) ?hq91x hHeld ?rq91x
            case hq91x => (intro w' hSw; (try dsimp only at hSw); go_simp <;> with_reducible rfl)
            try simp only [Act.put, List.setIfInBounds_toArray, List.set_cons_zero, List.set_cons_succ]
            refine take_op (i := 31) (d := 52) (OP := Op.pick (Operand.tmp 35) (Operand.const (Value.bool true)) (Operand.tmp 51)) (T := 4) (v := ?vq92x) rfl rfl rfl rfl (by kernel_rfl) (by kernel_rfl) (by kernel_rfl) (fun _ _ _ h => h) (by rfl) ?hq92x hHeld ?rq92x
            case hq92x => (intro w' hSw; (try dsimp only at hSw); go_simp <;> with_reducible rfl)
            try simp only [Act.put, List.setIfInBounds_toArray, List.set_cons_zero, List.set_cons_succ]
            refine take_op (i := 32) (d := 53) (OP := Op.move (Operand.tmp 52)) (T := 4) (v := ?vq93x) rfl rfl rfl rfl (by kernel_rfl) (by kernel_rfl) (by kernel_rfl) (fun _ _ _ h => h) (by rfl) ?hq93x hHeld ?rq93x
            case hq93x => (intro w' hSw; (try dsimp only at hSw); go_simp <;> with_reducible rfl)
            try simp only [Act.put, List.setIfInBounds_toArray, List.set_cons_zero, List.set_cons_succ]
            refine take_op (i := 33) (d := 54) (OP := Op.fieldAddr 47 (Operand.tmp 3) 0) (T := 0) (v := ?vq94x) rfl rfl rfl rfl (by kernel_rfl) (by kernel_rfl) (by kernel_rfl) (fun _ _ _ h => h) (by rfl) ?hq94x hHeld ?rq94x
            case hq94x => (intro w' hSw; (try dsimp only at hSw); go_simp <;> with_reducible rfl)
            try simp only [Act.put, List.setIfInBounds_toArray, List.set_cons_zero, List.set_cons_succ]
            refine take_op (i := 34) (d := 55) (OP := Op.load 23 (Operand.tmp 54)) (T := 23) (v := ?vq95x) rfl rfl rfl rfl (by kernel_rfl) (by kernel_rfl) (by kernel_rfl) (fun _ _ _ h => h) (by rfl) ?hq95x hHeld ?rq95x
            case hq95x => (intro w' hSw; (try dsimp only at hSw); go_simp <;> with_reducible rfl)
            try simp only [Act.put, List.setIfInBounds_toArray, List.set_cons_zero, List.set_cons_succ]
            refine take_op (i := 35) (d := 56) (OP := Op.fieldAddr 47 (Operand.tmp 4) 0) (T := 0) (v := ?vq96x) rfl rfl rfl rfl (by kernel_rfl) (by kernel_rfl) (by kernel_rfl) (fun _ _ _ h => h) (by rfl) ?hq96x hHeld ?rq96x
            case hq96x => (intro w' hSw; (try dsimp only at hSw); go_simp <;> with_reducible rfl)
            try simp only [Act.put, List.setIfInBounds_toArray, List.set_cons_zero, List.set_cons_succ]
            refine take_op (i := 36) (d := 57) (OP := Op.load 23 (Operand.tmp 56)) (T := 23) (v := ?vq97x) rfl rfl rfl rfl (by kernel_rfl) (by kernel_rfl) (by kernel_rfl) (fun _ _ _ h => h) (by rfl) ?hq97x hHeld ?rq97x
            case hq97x => (intro w' hSw; (try dsimp only at hSw); go_simp <;> with_reducible rfl)
            try simp only [Act.put, List.setIfInBounds_toArray, List.set_cons_zero, List.set_cons_succ]
            refine take_op (i := 38) (d := 59) (OP := Op.fieldAddr 47 (Operand.tmp 4) 0) (T := 0) (v := ?vq98x) rfl rfl rfl rfl (by kernel_rfl) (by kernel_rfl) (by kernel_rfl) (fun _ _ _ h => h) (by rfl) ?hq98x hHeld ?rq98x
            case hq98x => (intro w' hSw; (try dsimp only at hSw); go_simp <;> with_reducible rfl)
            try simp only [Act.put, List.setIfInBounds_toArray, List.set_cons_zero, List.set_cons_succ]
            refine take_op (i := 39) (d := 60) (OP := Op.load 23 (Operand.tmp 59)) (T := 23) (v := ?vq99x) rfl rfl rfl rfl (by kernel_rfl) (by kernel_rfl) (by kernel_rfl) (fun _ _ _ h => h) (by rfl) ?hq99x hHeld ?rq99x
            case hq99x => (intro w' hSw; (try dsimp only at hSw); go_simp <;> with_reducible rfl)
            try simp only [Act.put, List.setIfInBounds_toArray, List.set_cons_zero, List.set_cons_succ]
            refine take_op (i := 40) (d := 61) (OP := Op.fieldAddr 47 (Operand.tmp 3) 0) (T := 0) (v := ?vq100x) rfl rfl rfl rfl (by kernel_rfl) (by kernel_rfl) (by kernel_rfl) (fun _ _ _ h => h) (by rfl) ?hq100x hHeld ?rq100x
            case hq100x => (intro w' hSw; (try dsimp only at hSw); go_simp <;> with_reducible rfl)
            try simp only [Act.put, List.setIfInBounds_toArray, List.set_cons_zero, List.set_cons_succ]
            refine take_op (i := 41) (d := 62) (OP := Op.load 23 (Operand.tmp 61)) (T := 23) (v := ?vq101x) rfl rfl rfl rfl (by kernel_rfl) (by kernel_rfl) (by kernel_rfl) (fun _ _ _ h => h) (by rfl) ?hq101x hHeld ?rq101x
            case hq101x => (intro w' hSw; (try dsimp only at hSw); go_simp <;> with_reducible rfl)
            try simp only [Act.put, List.setIfInBounds_toArray, List.set_cons_zero, List.set_cons_succ]
            refine call_op (i := 37) (d := 58) (OP := Op.call { callee := Callee.value (Operand.func 31), args := #[Operand.tmp 55, Operand.tmp 57], argTypes := #[23, 23] }) (T := 3) (f := 31) (args := #[.slice a0 N0 c0, .slice a1 N1 c1]) rfl rfl rfl rfl (by kernel_rfl) (by rfl) (by go_simp) ?_
            refine (p01 _ hBW).mono ?_
            rintro e w14x ⟨rfl, hw14⟩
            subst hw14
            refine ⟨_, rfl, hHeld, ?_⟩
            replace hHeld := hHeld
            try simp only [Act.put, List.setIfInBounds_toArray, List.set_cons_zero, List.set_cons_succ]
            refine call_op (i := 42) (d := 63) (OP := Op.call { callee := Callee.value (Operand.func 31), args := #[Operand.tmp 60, Operand.tmp 62], argTypes := #[23, 23] }) (T := 3) (f := 31) (args := #[.slice a1 N1 c1, .slice a0 N0 c0]) rfl rfl rfl rfl (by kernel_rfl) (by rfl) (by go_simp) ?_
            refine (p10 _ hBW).mono ?_
            rintro e w15x ⟨rfl, hw15⟩
            subst hw15
            refine ⟨_, rfl, hHeld, ?_⟩
            replace hHeld := hHeld
            try simp only [Act.put, List.setIfInBounds_toArray, List.set_cons_zero, List.set_cons_succ]
            refine take_op (i := 43) (d := 64) (OP := Op.unOp UnOp.neg 3 (Operand.tmp 63)) (T := 3) (v := ?vq104x) rfl rfl rfl rfl (by kernel_rfl) (by kernel_rfl) (by kernel_rfl) (fun _ _ _ h => h) (by rfl) ?hq104x hHeld ?rq104x
            case hq104x => (intro w' hSw; (try dsimp only at hSw); go_simp <;> with_reducible rfl)
            try simp only [Act.put, List.setIfInBounds_toArray, List.set_cons_zero, List.set_cons_succ]
            refine take_op (i := 44) (d := 65) (OP := Op.binOp BinOp.neq 3 (Operand.tmp 58) (Operand.tmp 64) 3) (T := 4) (v := ?vq105x) rfl rfl rfl rfl (by kernel_rfl) (by kernel_rfl) (by kernel_rfl) (fun _ _ _ h => h) (by rfl) ?hq105x hHeld ?rq105x
            case hq105x => (intro w' hSw; (try dsimp only at hSw); go_simp <;> with_reducible rfl)
            try simp only [Act.put, List.setIfInBounds_toArray, List.set_cons_zero, List.set_cons_succ]
            refine take_op (i := 45) (d := 66) (OP := Op.pick (Operand.tmp 53) (Operand.const (Value.bool true)) (Operand.tmp 65)) (T := 4) (v := ?vq106x) rfl rfl rfl rfl (by kernel_rfl) (by kernel_rfl) (by kernel_rfl) (fun _ _ _ h => h) (by rfl) ?hq106x hHeld ?rq106x
            case hq106x => (intro w' hSw; (try dsimp only at hSw); go_simp <;> with_reducible rfl)
            try simp only [Act.put, List.setIfInBounds_toArray, List.set_cons_zero, List.set_cons_succ]
            refine take_op (i := 46) (d := 67) (OP := Op.move (Operand.tmp 66)) (T := 4) (v := ?vq107x) rfl rfl rfl rfl (by kernel_rfl) (by kernel_rfl) (by kernel_rfl) (fun _ _ _ h => h) (by rfl) ?hq107x hHeld ?rq107x
            case hq107x => (intro w' hSw; (try dsimp only at hSw); go_simp <;> with_reducible rfl)
            try simp only [Act.put, List.setIfInBounds_toArray, List.set_cons_zero, List.set_cons_succ]
            refine take_op (i := 47) (d := 68) (OP := Op.fieldAddr 47 (Operand.tmp 3) 2) (T := 0) (v := ?vq108x) rfl rfl rfl rfl (by kernel_rfl) (by kernel_rfl) (by kernel_rfl) (fun _ _ _ h => h) (by rfl) ?hq108x hHeld ?rq108x
            case hq108x => (intro w' hSw; (try dsimp only at hSw); go_simp <;> with_reducible rfl)
            try simp only [Act.put, List.setIfInBounds_toArray, List.set_cons_zero, List.set_cons_succ]
            refine take_op (i := 48) (d := 69) (OP := Op.load 9 (Operand.tmp 68)) (T := 9) (v := ?vq109x) rfl rfl rfl rfl (by kernel_rfl) (by kernel_rfl) (by kernel_rfl) (fun _ _ _ h => h) (by rfl) ?hq109x hHeld ?rq109x
            case hq109x => (intro w' hSw; (try dsimp only at hSw); go_simp <;> with_reducible rfl)
            try simp only [Act.put, List.setIfInBounds_toArray, List.set_cons_zero, List.set_cons_succ]
            refine take_op (i := 49) (d := 70) (OP := Op.fieldAddr 47 (Operand.tmp 4) 2) (T := 0) (v := ?vq110x) rfl rfl rfl rfl (by kernel_rfl) (by kernel_rfl) (by kernel_rfl) (fun _ _ _ h => h) (by rfl) ?hq110x hHeld ?rq110x
            case hq110x => (intro w' hSw; (try dsimp only at hSw); go_simp <;> with_reducible rfl)
            try simp only [Act.put, List.setIfInBounds_toArray, List.set_cons_zero, List.set_cons_succ]
            refine take_op (i := 50) (d := 71) (OP := Op.load 9 (Operand.tmp 70)) (T := 9) (v := ?vq111x) rfl rfl rfl rfl (by kernel_rfl) (by kernel_rfl) (by kernel_rfl) (fun _ _ _ h => h) (by rfl) ?hq111x hHeld ?rq111x
            case hq111x => (intro w' hSw; (try dsimp only at hSw); go_simp <;> with_reducible rfl)
            try simp only [Act.put, List.setIfInBounds_toArray, List.set_cons_zero, List.set_cons_succ]
            refine take_op (i := 52) (d := 73) (OP := Op.fieldAddr 47 (Operand.tmp 4) 2) (T := 0) (v := ?vq112x) rfl rfl rfl rfl (by kernel_rfl) (by kernel_rfl) (by kernel_rfl) (fun _ _ _ h => h) (by rfl) ?hq112x hHeld ?rq112x
            case hq112x => (intro w' hSw; (try dsimp only at hSw); go_simp <;> with_reducible rfl)
            try simp only [Act.put, List.setIfInBounds_toArray, List.set_cons_zero, List.set_cons_succ]
            refine take_op (i := 53) (d := 74) (OP := Op.load 9 (Operand.tmp 73)) (T := 9) (v := ?vq113x) rfl rfl rfl rfl (by kernel_rfl) (by kernel_rfl) (by kernel_rfl) (fun _ _ _ h => h) (by rfl) ?hq113x hHeld ?rq113x
            case hq113x => (intro w' hSw; (try dsimp only at hSw); go_simp <;> with_reducible rfl)
            try simp only [Act.put, List.setIfInBounds_toArray, List.set_cons_zero, List.set_cons_succ]
            refine take_op (i := 54) (d := 75) (OP := Op.fieldAddr 47 (Operand.tmp 3) 2) (T := 0) (v := ?vq114x) rfl rfl rfl rfl (by kernel_rfl) (by kernel_rfl) (by kernel_rfl) (fun _ _ _ h => h) (by rfl) ?hq114x hHeld ?rq114x
            case hq114x => (intro w' hSw; (try dsimp only at hSw); go_simp <;> with_reducible rfl)
            try simp only [Act.put, List.setIfInBounds_toArray, List.set_cons_zero, List.set_cons_succ]
            refine take_op (i := 55) (d := 76) (OP := Op.load 9 (Operand.tmp 75)) (T := 9) (v := ?vq115x) rfl rfl rfl rfl (by kernel_rfl) (by kernel_rfl) (by kernel_rfl) (fun _ _ _ h => h) (by rfl) ?hq115x hHeld ?rq115x
            case hq115x => (intro w' hSw; (try dsimp only at hSw); go_simp <;> with_reducible rfl)
            try simp only [Act.put, List.setIfInBounds_toArray, List.set_cons_zero, List.set_cons_succ]
            refine call_op (i := 51) (d := 72) (OP := Op.call { callee := Callee.value (Operand.func 29), args := #[Operand.tmp 69, Operand.tmp 71], argTypes := #[9, 9] }) (T := 3) (f := 29) (args := #[.string s0, .string s1]) rfl rfl rfl rfl (by kernel_rfl) (by rfl) (by go_simp) ?_
            refine (q01 _).mono ?_
            rintro e w16x ⟨rfl, hw16⟩
            subst hw16
            refine ⟨_, rfl, hHeld, ?_⟩
            replace hHeld := hHeld
            try simp only [Act.put, List.setIfInBounds_toArray, List.set_cons_zero, List.set_cons_succ]
            refine call_op (i := 56) (d := 77) (OP := Op.call { callee := Callee.value (Operand.func 29), args := #[Operand.tmp 74, Operand.tmp 76], argTypes := #[9, 9] }) (T := 3) (f := 29) (args := #[.string s1, .string s0]) rfl rfl rfl rfl (by kernel_rfl) (by rfl) (by go_simp) ?_
            refine (q10 _).mono ?_
            rintro e w17x ⟨rfl, hw17⟩
            subst hw17
            refine ⟨_, rfl, hHeld, ?_⟩
            replace hHeld := hHeld
            try simp only [Act.put, List.setIfInBounds_toArray, List.set_cons_zero, List.set_cons_succ]
            refine take_op (i := 57) (d := 78) (OP := Op.unOp UnOp.neg 3 (Operand.tmp 77)) (T := 3) (v := ?vq118x) rfl rfl rfl rfl (by kernel_rfl) (by kernel_rfl) (by kernel_rfl) (fun _ _ _ h => h) (by rfl) ?hq118x hHeld ?rq118x
            case hq118x => (intro w' hSw; (try dsimp only at hSw); go_simp <;> with_reducible rfl)
            try simp only [Act.put, List.setIfInBounds_toArray, List.set_cons_zero, List.set_cons_succ]
            refine take_op (i := 58) (d := 79) (OP := Op.binOp BinOp.neq 3 (Operand.tmp 72) (Operand.tmp 78) 3) (T := 4) (v := ?vq119x) rfl rfl rfl rfl (by kernel_rfl) (by kernel_rfl) (by kernel_rfl) (fun _ _ _ h => h) (by rfl) ?hq119x hHeld ?rq119x
            case hq119x => (intro w' hSw; (try dsimp only at hSw); go_simp <;> with_reducible rfl)
            try simp only [Act.put, List.setIfInBounds_toArray, List.set_cons_zero, List.set_cons_succ]
            refine take_op (i := 59) (d := 80) (OP := Op.pick (Operand.tmp 67) (Operand.const (Value.bool true)) (Operand.tmp 79)) (T := 4) (v := ?vq120x) rfl rfl rfl rfl (by kernel_rfl) (by kernel_rfl) (by kernel_rfl) (fun _ _ _ h => h) (by rfl) ?hq120x hHeld ?rq120x
            case hq120x => (intro w' hSw; (try dsimp only at hSw); go_simp <;> with_reducible rfl)
            try simp only [Act.put, List.setIfInBounds_toArray, List.set_cons_zero, List.set_cons_succ]
            refine wpAnyH_done (by kernel_rfl) ?_ _
            go_wp2
            go_meet
            exact ⟨rfl, hide ⟨HPP.out.1.below hBC, HPP.out.2.1.below hBC, hBW⟩⟩
        · clear gtr
          refine wp_region_held_drew (S := (fun w' => w'.cell? ⟨A, 0, none⟩ = some (.slice a0 N0 c0) ∧ w'.cell? ⟨A, 1, none⟩ = some (.int .i64 x0) ∧ w'.cell? ⟨A, 2, none⟩ = some (.string s0) ∧ w'.cell? ⟨B, 0, none⟩ = some (.slice a1 N1 c1) ∧ w'.cell? ⟨B, 1, none⟩ = some (.int .i64 x1) ∧ w'.cell? ⟨B, 2, none⟩ = some (.string s1) ∧ w'.cell? ⟨C, 0, none⟩ = some (.slice a2 N2 c2) ∧ w'.cell? ⟨C, 1, none⟩ = some (.int .i64 x2) ∧ w'.cell? ⟨C, 2, none⟩ = some (.string s2))) (by kernel_rfl) (by exact hS0) (fun hHeld => ?_)
          try dsimp only at hHeld
          refine take_op (i := 0) (d := 21) (OP := Op.load 47 (Operand.tmp 3)) (T := 47) (v := ?vq1x) rfl rfl rfl rfl (by kernel_rfl) (by kernel_rfl) (by kernel_rfl) (fun _ _ _ h => h) (by rfl) ?hq1x hHeld ?rq1x
          case hq1x => (intro w' hSw; (try dsimp only at hSw); go_simp <;> with_reducible rfl)
          try simp only [Act.put, List.setIfInBounds_toArray, List.set_cons_zero, List.set_cons_succ]
          refine take_op (i := 1) (d := 22) (OP := Op.load 47 (Operand.tmp 4)) (T := 47) (v := ?vq2x) rfl rfl rfl rfl (by kernel_rfl) (by kernel_rfl) (by kernel_rfl) (fun _ _ _ h => h) (by rfl) ?hq2x hHeld ?rq2x
          case hq2x => (intro w' hSw; (try dsimp only at hSw); go_simp <;> with_reducible rfl)
          try simp only [Act.put, List.setIfInBounds_toArray, List.set_cons_zero, List.set_cons_succ]
          refine take_op (i := 3) (d := 24) (OP := Op.load 47 (Operand.tmp 4)) (T := 47) (v := ?vq3x) rfl rfl rfl rfl (by kernel_rfl) (by kernel_rfl) (by kernel_rfl) (fun _ _ _ h => h) (by rfl) ?hq3x hHeld ?rq3x
          case hq3x => (intro w' hSw; (try dsimp only at hSw); go_simp <;> with_reducible rfl)
          try simp only [Act.put, List.setIfInBounds_toArray, List.set_cons_zero, List.set_cons_succ]
          refine take_op (i := 4) (d := 25) (OP := Op.load 47 (Operand.tmp 3)) (T := 47) (v := ?vq4x) rfl rfl rfl rfl (by kernel_rfl) (by kernel_rfl) (by kernel_rfl) (fun _ _ _ h => h) (by rfl) ?hq4x hHeld ?rq4x
          case hq4x => (intro w' hSw; (try dsimp only at hSw); go_simp <;> with_reducible rfl)
          try simp only [Act.put, List.setIfInBounds_toArray, List.set_cons_zero, List.set_cons_succ]
          refine call_op (i := 2) (d := 23) (OP := Op.call { callee := Callee.value (Operand.func 33), args := #[Operand.tmp 21, Operand.tmp 22], argTypes := #[47, 47] }) (T := 3) (f := 33) (args := #[plv a0 N0 c0 x0 s0, plv a1 N1 c1 x1 s1]) rfl rfl rfl rfl (by kernel_rfl) (by rfl) (by go_simp) ?_
          refine (k01 _ hBW).mono ?_
          rintro e w1x ⟨rfl, bb⟩
          have hS1x : w1x.cell? ⟨A, 0, none⟩ = some (.slice a0 N0 c0) ∧ w1x.cell? ⟨A, 1, none⟩ = some (.int .i64 x0) ∧ w1x.cell? ⟨A, 2, none⟩ = some (.string s0) ∧ w1x.cell? ⟨B, 0, none⟩ = some (.slice a1 N1 c1) ∧ w1x.cell? ⟨B, 1, none⟩ = some (.int .i64 x1) ∧ w1x.cell? ⟨B, 2, none⟩ = some (.string s1) ∧ w1x.cell? ⟨C, 0, none⟩ = some (.slice a2 N2 c2) ∧ w1x.cell? ⟨C, 1, none⟩ = some (.int .i64 x2) ∧ w1x.cell? ⟨C, 2, none⟩ = some (.string s2) := ⟨(bb.cell (World.block_lt_of_cell? _ _ hHeld.1)).trans hHeld.1, (bb.cell (World.block_lt_of_cell? _ _ hHeld.2.1)).trans hHeld.2.1, (bb.cell (World.block_lt_of_cell? _ _ hHeld.2.2.1)).trans hHeld.2.2.1, (bb.cell (World.block_lt_of_cell? _ _ hHeld.2.2.2.1)).trans hHeld.2.2.2.1, (bb.cell (World.block_lt_of_cell? _ _ hHeld.2.2.2.2.1)).trans hHeld.2.2.2.2.1, (bb.cell (World.block_lt_of_cell? _ _ hHeld.2.2.2.2.2.1)).trans hHeld.2.2.2.2.2.1, (bb.cell (World.block_lt_of_cell? _ _ hHeld.2.2.2.2.2.2.1)).trans hHeld.2.2.2.2.2.2.1, (bb.cell (World.block_lt_of_cell? _ _ hHeld.2.2.2.2.2.2.2.1)).trans hHeld.2.2.2.2.2.2.2.1, (bb.cell (World.block_lt_of_cell? _ _ hHeld.2.2.2.2.2.2.2.2)).trans hHeld.2.2.2.2.2.2.2.2⟩
          replace hBW := hBW.trans (bb.mono hBW.size)
          replace hBC := hBC.trans (bb.mono hBC.size)
          clear bb
          refine ⟨_, rfl, hS1x, ?_⟩
          replace hHeld := hS1x
          try simp only [Act.put, List.setIfInBounds_toArray, List.set_cons_zero, List.set_cons_succ]
          refine call_op (i := 5) (d := 26) (OP := Op.call { callee := Callee.value (Operand.func 33), args := #[Operand.tmp 24, Operand.tmp 25], argTypes := #[47, 47] }) (T := 3) (f := 33) (args := #[plv a1 N1 c1 x1 s1, plv a0 N0 c0 x0 s0]) rfl rfl rfl rfl (by kernel_rfl) (by rfl) (by go_simp) ?_
          refine (k10 _ hBW).mono ?_
          rintro e w2x ⟨rfl, bb⟩
          have hS2x : w2x.cell? ⟨A, 0, none⟩ = some (.slice a0 N0 c0) ∧ w2x.cell? ⟨A, 1, none⟩ = some (.int .i64 x0) ∧ w2x.cell? ⟨A, 2, none⟩ = some (.string s0) ∧ w2x.cell? ⟨B, 0, none⟩ = some (.slice a1 N1 c1) ∧ w2x.cell? ⟨B, 1, none⟩ = some (.int .i64 x1) ∧ w2x.cell? ⟨B, 2, none⟩ = some (.string s1) ∧ w2x.cell? ⟨C, 0, none⟩ = some (.slice a2 N2 c2) ∧ w2x.cell? ⟨C, 1, none⟩ = some (.int .i64 x2) ∧ w2x.cell? ⟨C, 2, none⟩ = some (.string s2) := ⟨(bb.cell (World.block_lt_of_cell? _ _ hHeld.1)).trans hHeld.1, (bb.cell (World.block_lt_of_cell? _ _ hHeld.2.1)).trans hHeld.2.1, (bb.cell (World.block_lt_of_cell? _ _ hHeld.2.2.1)).trans hHeld.2.2.1, (bb.cell (World.block_lt_of_cell? _ _ hHeld.2.2.2.1)).trans hHeld.2.2.2.1, (bb.cell (World.block_lt_of_cell? _ _ hHeld.2.2.2.2.1)).trans hHeld.2.2.2.2.1, (bb.cell (World.block_lt_of_cell? _ _ hHeld.2.2.2.2.2.1)).trans hHeld.2.2.2.2.2.1, (bb.cell (World.block_lt_of_cell? _ _ hHeld.2.2.2.2.2.2.1)).trans hHeld.2.2.2.2.2.2.1, (bb.cell (World.block_lt_of_cell? _ _ hHeld.2.2.2.2.2.2.2.1)).trans hHeld.2.2.2.2.2.2.2.1, (bb.cell (World.block_lt_of_cell? _ _ hHeld.2.2.2.2.2.2.2.2)).trans hHeld.2.2.2.2.2.2.2.2⟩
          replace hBW := hBW.trans (bb.mono hBW.size)
          replace hBC := hBC.trans (bb.mono hBC.size)
          clear bb
          refine ⟨_, rfl, hS2x, ?_⟩
          replace hHeld := hS2x
          try simp only [Act.put, List.setIfInBounds_toArray, List.set_cons_zero, List.set_cons_succ]
          refine take_op (i := 6) (d := 27) (OP := Op.unOp UnOp.neg 3 (Operand.tmp 26)) (T := 3) (v := ?vq7x) rfl rfl rfl rfl (by kernel_rfl) (by kernel_rfl) (by kernel_rfl) (fun _ _ _ h => h) (by rfl) ?hq7x hHeld ?rq7x
          case hq7x => (intro w' hSw; (try dsimp only at hSw); go_simp <;> with_reducible rfl)
          try simp only [Act.put, List.setIfInBounds_toArray, List.set_cons_zero, List.set_cons_succ]
          refine take_op (i := 7) (d := 28) (OP := Op.binOp BinOp.neq 3 (Operand.tmp 23) (Operand.tmp 27) 3) (T := 4) (v := ?vq8x) rfl rfl rfl rfl (by kernel_rfl) (by kernel_rfl) (by kernel_rfl) (fun _ _ _ h => h) (by rfl) ?hq8x hHeld ?rq8x
          case hq8x => (intro w' hSw; (try dsimp only at hSw); go_simp <;> with_reducible rfl)
          try simp only [Act.put, List.setIfInBounds_toArray, List.set_cons_zero, List.set_cons_succ]
          refine take_op (i := 8) (d := 29) (OP := Op.move (Operand.tmp 28)) (T := 4) (v := ?vq9x) rfl rfl rfl rfl (by kernel_rfl) (by kernel_rfl) (by kernel_rfl) (fun _ _ _ h => h) (by rfl) ?hq9x hHeld ?rq9x
          case hq9x => (intro w' hSw; (try dsimp only at hSw); go_simp <;> with_reducible rfl)
          try simp only [Act.put, List.setIfInBounds_toArray, List.set_cons_zero, List.set_cons_succ]
          refine take_op (i := 9) (d := 30) (OP := Op.load 47 (Operand.tmp 3)) (T := 47) (v := ?vq10x) rfl rfl rfl rfl (by kernel_rfl) (by kernel_rfl) (by kernel_rfl) (fun _ _ _ h => h) (by rfl) ?hq10x hHeld ?rq10x
          case hq10x => (intro w' hSw; (try dsimp only at hSw); go_simp <;> with_reducible rfl)
          try simp only [Act.put, List.setIfInBounds_toArray, List.set_cons_zero, List.set_cons_succ]
          refine take_op (i := 10) (d := 31) (OP := Op.load 47 (Operand.tmp 3)) (T := 47) (v := ?vq11x) rfl rfl rfl rfl (by kernel_rfl) (by kernel_rfl) (by kernel_rfl) (fun _ _ _ h => h) (by rfl) ?hq11x hHeld ?rq11x
          case hq11x => (intro w' hSw; (try dsimp only at hSw); go_simp <;> with_reducible rfl)
          try simp only [Act.put, List.setIfInBounds_toArray, List.set_cons_zero, List.set_cons_succ]
          refine call_op (i := 11) (d := 32) (OP := Op.call { callee := Callee.value (Operand.func 33), args := #[Operand.tmp 30, Operand.tmp 31], argTypes := #[47, 47] }) (T := 3) (f := 33) (args := #[plv a0 N0 c0 x0 s0, plv a0 N0 c0 x0 s0]) rfl rfl rfl rfl (by kernel_rfl) (by rfl) (by go_simp) ?_
          refine (k00 _ hBW).mono ?_
          rintro e w3x ⟨rfl, bb⟩
          have hS3x : w3x.cell? ⟨A, 0, none⟩ = some (.slice a0 N0 c0) ∧ w3x.cell? ⟨A, 1, none⟩ = some (.int .i64 x0) ∧ w3x.cell? ⟨A, 2, none⟩ = some (.string s0) ∧ w3x.cell? ⟨B, 0, none⟩ = some (.slice a1 N1 c1) ∧ w3x.cell? ⟨B, 1, none⟩ = some (.int .i64 x1) ∧ w3x.cell? ⟨B, 2, none⟩ = some (.string s1) ∧ w3x.cell? ⟨C, 0, none⟩ = some (.slice a2 N2 c2) ∧ w3x.cell? ⟨C, 1, none⟩ = some (.int .i64 x2) ∧ w3x.cell? ⟨C, 2, none⟩ = some (.string s2) := ⟨(bb.cell (World.block_lt_of_cell? _ _ hHeld.1)).trans hHeld.1, (bb.cell (World.block_lt_of_cell? _ _ hHeld.2.1)).trans hHeld.2.1, (bb.cell (World.block_lt_of_cell? _ _ hHeld.2.2.1)).trans hHeld.2.2.1, (bb.cell (World.block_lt_of_cell? _ _ hHeld.2.2.2.1)).trans hHeld.2.2.2.1, (bb.cell (World.block_lt_of_cell? _ _ hHeld.2.2.2.2.1)).trans hHeld.2.2.2.2.1, (bb.cell (World.block_lt_of_cell? _ _ hHeld.2.2.2.2.2.1)).trans hHeld.2.2.2.2.2.1, (bb.cell (World.block_lt_of_cell? _ _ hHeld.2.2.2.2.2.2.1)).trans hHeld.2.2.2.2.2.2.1, (bb.cell (World.block_lt_of_cell? _ _ hHeld.2.2.2.2.2.2.2.1)).trans hHeld.2.2.2.2.2.2.2.1, (bb.cell (World.block_lt_of_cell? _ _ hHeld.2.2.2.2.2.2.2.2)).trans hHeld.2.2.2.2.2.2.2.2⟩
          replace hBW := hBW.trans (bb.mono hBW.size)
          replace hBC := hBC.trans (bb.mono hBC.size)
          clear bb
          refine ⟨_, rfl, hS3x, ?_⟩
          replace hHeld := hS3x
          try simp only [Act.put, List.setIfInBounds_toArray, List.set_cons_zero, List.set_cons_succ]
          refine take_op (i := 12) (d := 33) (OP := Op.binOp BinOp.neq 3 (Operand.tmp 32) (Operand.const (Value.int IntKind.i64 0)) 3) (T := 4) (v := ?vq13x) rfl rfl rfl rfl (by kernel_rfl) (by kernel_rfl) (by kernel_rfl) (fun _ _ _ h => h) (by rfl) ?hq13x hHeld ?rq13x
          case hq13x => (intro w' hSw; (try dsimp only at hSw); go_simp <;> with_reducible rfl)
          try simp only [Act.put, List.setIfInBounds_toArray, List.set_cons_zero, List.set_cons_succ]
          refine take_op (i := 13) (d := 34) (OP := Op.pick (Operand.tmp 29) (Operand.const (Value.bool true)) (Operand.tmp 33)) (T := 4) (v := ?vq14x) rfl rfl rfl rfl (by kernel_rfl) (by kernel_rfl) (by kernel_rfl) (fun _ _ _ h => h) (by rfl) ?hq14x hHeld ?rq14x
          case hq14x => (intro w' hSw; (try dsimp only at hSw); go_simp <;> with_reducible rfl)
          try simp only [Act.put, List.setIfInBounds_toArray, List.set_cons_zero, List.set_cons_succ]
          refine take_op (i := 14) (d := 35) (OP := Op.move (Operand.tmp 34)) (T := 4) (v := ?vq15x) rfl rfl rfl rfl (by kernel_rfl) (by kernel_rfl) (by kernel_rfl) (fun _ _ _ h => h) (by rfl) ?hq15x hHeld ?rq15x
          case hq15x => (intro w' hSw; (try dsimp only at hSw); go_simp <;> with_reducible rfl)
          try simp only [Act.put, List.setIfInBounds_toArray, List.set_cons_zero, List.set_cons_succ]
          refine take_op (i := 15) (d := 36) (OP := Op.load 47 (Operand.tmp 3)) (T := 47) (v := ?vq16x) rfl rfl rfl rfl (by kernel_rfl) (by kernel_rfl) (by kernel_rfl) (fun _ _ _ h => h) (by rfl) ?hq16x hHeld ?rq16x
          case hq16x => (intro w' hSw; (try dsimp only at hSw); go_simp <;> with_reducible rfl)
          try simp only [Act.put, List.setIfInBounds_toArray, List.set_cons_zero, List.set_cons_succ]
          refine take_op (i := 16) (d := 37) (OP := Op.load 47 (Operand.tmp 4)) (T := 47) (v := ?vq17x) rfl rfl rfl rfl (by kernel_rfl) (by kernel_rfl) (by kernel_rfl) (fun _ _ _ h => h) (by rfl) ?hq17x hHeld ?rq17x
          case hq17x => (intro w' hSw; (try dsimp only at hSw); go_simp <;> with_reducible rfl)
          try simp only [Act.put, List.setIfInBounds_toArray, List.set_cons_zero, List.set_cons_succ]
          refine call_op (i := 17) (d := 38) (OP := Op.call { callee := Callee.value (Operand.func 33), args := #[Operand.tmp 36, Operand.tmp 37], argTypes := #[47, 47] }) (T := 3) (f := 33) (args := #[plv a0 N0 c0 x0 s0, plv a1 N1 c1 x1 s1]) rfl rfl rfl rfl (by kernel_rfl) (by rfl) (by go_simp) ?_
          refine (k01 _ hBW).mono ?_
          rintro e w4x ⟨rfl, bb⟩
          have hS4x : w4x.cell? ⟨A, 0, none⟩ = some (.slice a0 N0 c0) ∧ w4x.cell? ⟨A, 1, none⟩ = some (.int .i64 x0) ∧ w4x.cell? ⟨A, 2, none⟩ = some (.string s0) ∧ w4x.cell? ⟨B, 0, none⟩ = some (.slice a1 N1 c1) ∧ w4x.cell? ⟨B, 1, none⟩ = some (.int .i64 x1) ∧ w4x.cell? ⟨B, 2, none⟩ = some (.string s1) ∧ w4x.cell? ⟨C, 0, none⟩ = some (.slice a2 N2 c2) ∧ w4x.cell? ⟨C, 1, none⟩ = some (.int .i64 x2) ∧ w4x.cell? ⟨C, 2, none⟩ = some (.string s2) := ⟨(bb.cell (World.block_lt_of_cell? _ _ hHeld.1)).trans hHeld.1, (bb.cell (World.block_lt_of_cell? _ _ hHeld.2.1)).trans hHeld.2.1, (bb.cell (World.block_lt_of_cell? _ _ hHeld.2.2.1)).trans hHeld.2.2.1, (bb.cell (World.block_lt_of_cell? _ _ hHeld.2.2.2.1)).trans hHeld.2.2.2.1, (bb.cell (World.block_lt_of_cell? _ _ hHeld.2.2.2.2.1)).trans hHeld.2.2.2.2.1, (bb.cell (World.block_lt_of_cell? _ _ hHeld.2.2.2.2.2.1)).trans hHeld.2.2.2.2.2.1, (bb.cell (World.block_lt_of_cell? _ _ hHeld.2.2.2.2.2.2.1)).trans hHeld.2.2.2.2.2.2.1, (bb.cell (World.block_lt_of_cell? _ _ hHeld.2.2.2.2.2.2.2.1)).trans hHeld.2.2.2.2.2.2.2.1, (bb.cell (World.block_lt_of_cell? _ _ hHeld.2.2.2.2.2.2.2.2)).trans hHeld.2.2.2.2.2.2.2.2⟩
          replace hBW := hBW.trans (bb.mono hBW.size)
          replace hBC := hBC.trans (bb.mono hBC.size)
          clear bb
          refine ⟨_, rfl, hS4x, ?_⟩
          replace hHeld := hS4x
          try simp only [Act.put, List.setIfInBounds_toArray, List.set_cons_zero, List.set_cons_succ]
          refine take_op (i := 18) (d := 39) (OP := Op.binOp BinOp.leq 3 (Operand.tmp 38) (Operand.const (Value.int IntKind.i64 0)) 3) (T := 4) (v := ?vq19x) rfl rfl rfl rfl (by kernel_rfl) (by kernel_rfl) (by kernel_rfl) (fun _ _ _ h => h) (by rfl) ?hq19x hHeld ?rq19x
          case hq19x => (intro w' hSw; (try dsimp only at hSw); go_simp <;> with_reducible rfl)
          try simp only [Act.put, List.setIfInBounds_toArray, List.set_cons_zero, List.set_cons_succ]
          refine take_op (i := 19) (d := 40) (OP := Op.move (Operand.tmp 39)) (T := 4) (v := ?vq20x) rfl rfl rfl rfl (by kernel_rfl) (by kernel_rfl) (by kernel_rfl) (fun _ _ _ h => h) (by rfl) ?hq20x hHeld ?rq20x
          case hq20x => (intro w' hSw; (try dsimp only at hSw); go_simp <;> with_reducible rfl)
          try simp only [Act.put, List.setIfInBounds_toArray, List.set_cons_zero, List.set_cons_succ]
          refine pass_op (i := 20) (d := 41) rfl rfl (by kernel_rfl) (by kernel_rfl) (by kernel_rfl) (fun _ _ _ h => h) (by rfl) hHeld ?rq21x
          try simp only [Act.put, List.setIfInBounds_toArray, List.set_cons_zero, List.set_cons_succ]
          refine pass_op (i := 21) (d := 42) rfl rfl (by kernel_rfl) (by kernel_rfl) (by kernel_rfl) (fun _ _ _ h => h) (by rfl) hHeld ?rq22x
          try simp only [Act.put, List.setIfInBounds_toArray, List.set_cons_zero, List.set_cons_succ]
          refine pass_op (i := 22) (d := 43) rfl rfl (by kernel_rfl) (by kernel_rfl) (by kernel_rfl) (fun _ _ _ h => h) (by rfl) hHeld ?rq23x
          try simp only [Act.put, List.setIfInBounds_toArray, List.set_cons_zero, List.set_cons_succ]
          refine pass_op (i := 23) (d := 44) rfl rfl (by kernel_rfl) (by kernel_rfl) (by kernel_rfl) (fun _ _ _ h => h) (by rfl) hHeld ?rq24x
          try simp only [Act.put, List.setIfInBounds_toArray, List.set_cons_zero, List.set_cons_succ]
          refine take_op (i := 24) (d := 45) (OP := Op.pick (Operand.tmp 40) (Operand.tmp 44) (Operand.const (Value.bool false))) (T := 4) (v := ?vq25x) rfl rfl rfl rfl (by kernel_rfl) (by kernel_rfl) (by kernel_rfl) (fun _ _ _ h => h) (by rfl) ?hq25x hHeld ?rq25x
          case hq25x => (intro w' hSw; (try dsimp only at hSw); go_simp <;> with_reducible rfl)
          try simp only [Act.put, List.setIfInBounds_toArray, List.set_cons_zero, List.set_cons_succ]
          refine take_op (i := 25) (d := 46) (OP := Op.move (Operand.tmp 45)) (T := 4) (v := ?vq26x) rfl rfl rfl rfl (by kernel_rfl) (by kernel_rfl) (by kernel_rfl) (fun _ _ _ h => h) (by rfl) ?hq26x hHeld ?rq26x
          case hq26x => (intro w' hSw; (try dsimp only at hSw); go_simp <;> with_reducible rfl)
          try simp only [Act.put, List.setIfInBounds_toArray, List.set_cons_zero, List.set_cons_succ]
          refine pass_op (i := 26) (d := 47) rfl rfl (by kernel_rfl) (by kernel_rfl) (by kernel_rfl) (fun _ _ _ h => h) (by rfl) hHeld ?rq27x
          try simp only [Act.put, List.setIfInBounds_toArray, List.set_cons_zero, List.set_cons_succ]
          refine pass_op (i := 27) (d := 48) rfl rfl (by kernel_rfl) (by kernel_rfl) (by kernel_rfl) (fun _ _ _ h => h) (by rfl) hHeld ?rq28x
          try simp only [Act.put, List.setIfInBounds_toArray, List.set_cons_zero, List.set_cons_succ]
          refine pass_op (i := 28) (d := 49) rfl rfl (by kernel_rfl) (by kernel_rfl) (by kernel_rfl) (fun _ _ _ h => h) (by rfl) hHeld ?rq29x
          try simp only [Act.put, List.setIfInBounds_toArray, List.set_cons_zero, List.set_cons_succ]
          refine pass_op (i := 29) (d := 50) rfl rfl (by kernel_rfl) (by kernel_rfl) (by kernel_rfl) (fun _ _ _ h => h) (by rfl) hHeld ?rq30x
          try simp only [Act.put, List.setIfInBounds_toArray, List.set_cons_zero, List.set_cons_succ]
          refine take_op (i := 30) (d := 51) (OP := Op.pick (Operand.tmp 46) (Operand.tmp 50) (Operand.const (Value.bool false))) (T := 4) (v := ?vq31x) rfl rfl rfl rfl (by kernel_rfl) (by kernel_rfl) (by kernel_rfl) (fun _ _ _ h => h) (by rfl) ?hq31x hHeld ?rq31x
          case hq31x => (intro w' hSw; (try dsimp only at hSw); go_simp <;> with_reducible rfl)
          try simp only [Act.put, List.setIfInBounds_toArray, List.set_cons_zero, List.set_cons_succ]
          refine take_op (i := 31) (d := 52) (OP := Op.pick (Operand.tmp 35) (Operand.const (Value.bool true)) (Operand.tmp 51)) (T := 4) (v := ?vq32x) rfl rfl rfl rfl (by kernel_rfl) (by kernel_rfl) (by kernel_rfl) (fun _ _ _ h => h) (by rfl) ?hq32x hHeld ?rq32x
          case hq32x => (intro w' hSw; (try dsimp only at hSw); go_simp <;> with_reducible rfl)
          try simp only [Act.put, List.setIfInBounds_toArray, List.set_cons_zero, List.set_cons_succ]
          refine take_op (i := 32) (d := 53) (OP := Op.move (Operand.tmp 52)) (T := 4) (v := ?vq33x) rfl rfl rfl rfl (by kernel_rfl) (by kernel_rfl) (by kernel_rfl) (fun _ _ _ h => h) (by rfl) ?hq33x hHeld ?rq33x
          case hq33x => (intro w' hSw; (try dsimp only at hSw); go_simp <;> with_reducible rfl)
          try simp only [Act.put, List.setIfInBounds_toArray, List.set_cons_zero, List.set_cons_succ]
          refine take_op (i := 33) (d := 54) (OP := Op.fieldAddr 47 (Operand.tmp 3) 0) (T := 0) (v := ?vq34x) rfl rfl rfl rfl (by kernel_rfl) (by kernel_rfl) (by kernel_rfl) (fun _ _ _ h => h) (by rfl) ?hq34x hHeld ?rq34x
          case hq34x => (intro w' hSw; (try dsimp only at hSw); go_simp <;> with_reducible rfl)
          try simp only [Act.put, List.setIfInBounds_toArray, List.set_cons_zero, List.set_cons_succ]
          refine take_op (i := 34) (d := 55) (OP := Op.load 23 (Operand.tmp 54)) (T := 23) (v := ?vq35x) rfl rfl rfl rfl (by kernel_rfl) (by kernel_rfl) (by kernel_rfl) (fun _ _ _ h => h) (by rfl) ?hq35x hHeld ?rq35x
          case hq35x => (intro w' hSw; (try dsimp only at hSw); go_simp <;> with_reducible rfl)
          try simp only [Act.put, List.setIfInBounds_toArray, List.set_cons_zero, List.set_cons_succ]
          refine take_op (i := 35) (d := 56) (OP := Op.fieldAddr 47 (Operand.tmp 4) 0) (T := 0) (v := ?vq36x) rfl rfl rfl rfl (by kernel_rfl) (by kernel_rfl) (by kernel_rfl) (fun _ _ _ h => h) (by rfl) ?hq36x hHeld ?rq36x
          case hq36x => (intro w' hSw; (try dsimp only at hSw); go_simp <;> with_reducible rfl)
          try simp only [Act.put, List.setIfInBounds_toArray, List.set_cons_zero, List.set_cons_succ]
          refine take_op (i := 36) (d := 57) (OP := Op.load 23 (Operand.tmp 56)) (T := 23) (v := ?vq37x) rfl rfl rfl rfl (by kernel_rfl) (by kernel_rfl) (by kernel_rfl) (fun _ _ _ h => h) (by rfl) ?hq37x hHeld ?rq37x
          case hq37x => (intro w' hSw; (try dsimp only at hSw); go_simp <;> with_reducible rfl)
          try simp only [Act.put, List.setIfInBounds_toArray, List.set_cons_zero, List.set_cons_succ]
          refine take_op (i := 38) (d := 59) (OP := Op.fieldAddr 47 (Operand.tmp 4) 0) (T := 0) (v := ?vq38x) rfl rfl rfl rfl (by kernel_rfl) (by kernel_rfl) (by kernel_rfl) (fun _ _ _ h => h) (by rfl) ?hq38x hHeld ?rq38x
          case hq38x => (intro w' hSw; (try dsimp only at hSw); go_simp <;> with_reducible rfl)
          try simp only [Act.put, List.setIfInBounds_toArray, List.set_cons_zero, List.set_cons_succ]
          refine take_op (i := 39) (d := 60) (OP := Op.load 23 (Operand.tmp 59)) (T := 23) (v := ?vq39x) rfl rfl rfl rfl (by kernel_rfl) (by kernel_rfl) (by kernel_rfl) (fun _ _ _ h => h) (by rfl) ?hq39x hHeld ?rq39x
          case hq39x => (intro w' hSw; (try dsimp only at hSw); go_simp <;> with_reducible rfl)
          try simp only [Act.put, List.setIfInBounds_toArray, List.set_cons_zero, List.set_cons_succ]
          refine take_op (i := 40) (d := 61) (OP := Op.fieldAddr 47 (Operand.tmp 3) 0) (T := 0) (v := ?vq40x) rfl rfl rfl rfl (by kernel_rfl) (by kernel_rfl) (by kernel_rfl) (fun _ _ _ h => h) (by rfl) ?hq40x hHeld ?rq40x
          case hq40x => (intro w' hSw; (try dsimp only at hSw); go_simp <;> with_reducible rfl)
          try simp only [Act.put, List.setIfInBounds_toArray, List.set_cons_zero, List.set_cons_succ]
          refine take_op (i := 41) (d := 62) (OP := Op.load 23 (Operand.tmp 61)) (T := 23) (v := ?vq41x) rfl rfl rfl rfl (by kernel_rfl) (by kernel_rfl) (by kernel_rfl) (fun _ _ _ h => h) (by rfl) ?hq41x hHeld ?rq41x
          case hq41x => (intro w' hSw; (try dsimp only at hSw); go_simp <;> with_reducible rfl)
          try simp only [Act.put, List.setIfInBounds_toArray, List.set_cons_zero, List.set_cons_succ]
          refine call_op (i := 37) (d := 58) (OP := Op.call { callee := Callee.value (Operand.func 31), args := #[Operand.tmp 55, Operand.tmp 57], argTypes := #[23, 23] }) (T := 3) (f := 31) (args := #[.slice a0 N0 c0, .slice a1 N1 c1]) rfl rfl rfl rfl (by kernel_rfl) (by rfl) (by go_simp) ?_
          refine (p01 _ hBW).mono ?_
          rintro e w5x ⟨rfl, hw5⟩
          subst hw5
          refine ⟨_, rfl, hHeld, ?_⟩
          replace hHeld := hHeld
          try simp only [Act.put, List.setIfInBounds_toArray, List.set_cons_zero, List.set_cons_succ]
          refine call_op (i := 42) (d := 63) (OP := Op.call { callee := Callee.value (Operand.func 31), args := #[Operand.tmp 60, Operand.tmp 62], argTypes := #[23, 23] }) (T := 3) (f := 31) (args := #[.slice a1 N1 c1, .slice a0 N0 c0]) rfl rfl rfl rfl (by kernel_rfl) (by rfl) (by go_simp) ?_
          refine (p10 _ hBW).mono ?_
          rintro e w6x ⟨rfl, hw6⟩
          subst hw6
          refine ⟨_, rfl, hHeld, ?_⟩
          replace hHeld := hHeld
          try simp only [Act.put, List.setIfInBounds_toArray, List.set_cons_zero, List.set_cons_succ]
          refine take_op (i := 43) (d := 64) (OP := Op.unOp UnOp.neg 3 (Operand.tmp 63)) (T := 3) (v := ?vq44x) rfl rfl rfl rfl (by kernel_rfl) (by kernel_rfl) (by kernel_rfl) (fun _ _ _ h => h) (by rfl) ?hq44x hHeld ?rq44x
          case hq44x => (intro w' hSw; (try dsimp only at hSw); go_simp <;> with_reducible rfl)
          try simp only [Act.put, List.setIfInBounds_toArray, List.set_cons_zero, List.set_cons_succ]
          refine take_op (i := 44) (d := 65) (OP := Op.binOp BinOp.neq 3 (Operand.tmp 58) (Operand.tmp 64) 3) (T := 4) (v := ?vq45x) rfl rfl rfl rfl (by kernel_rfl) (by kernel_rfl) (by kernel_rfl) (fun _ _ _ h => h) (by rfl) ?hq45x hHeld ?rq45x
          case hq45x => (intro w' hSw; (try dsimp only at hSw); go_simp <;> with_reducible rfl)
          try simp only [Act.put, List.setIfInBounds_toArray, List.set_cons_zero, List.set_cons_succ]
          refine take_op (i := 45) (d := 66) (OP := Op.pick (Operand.tmp 53) (Operand.const (Value.bool true)) (Operand.tmp 65)) (T := 4) (v := ?vq46x) rfl rfl rfl rfl (by kernel_rfl) (by kernel_rfl) (by kernel_rfl) (fun _ _ _ h => h) (by rfl) ?hq46x hHeld ?rq46x
          case hq46x => (intro w' hSw; (try dsimp only at hSw); go_simp <;> with_reducible rfl)
          try simp only [Act.put, List.setIfInBounds_toArray, List.set_cons_zero, List.set_cons_succ]
          refine take_op (i := 46) (d := 67) (OP := Op.move (Operand.tmp 66)) (T := 4) (v := ?vq47x) rfl rfl rfl rfl (by kernel_rfl) (by kernel_rfl) (by kernel_rfl) (fun _ _ _ h => h) (by rfl) ?hq47x hHeld ?rq47x
          case hq47x => (intro w' hSw; (try dsimp only at hSw); go_simp <;> with_reducible rfl)
          try simp only [Act.put, List.setIfInBounds_toArray, List.set_cons_zero, List.set_cons_succ]
          refine take_op (i := 47) (d := 68) (OP := Op.fieldAddr 47 (Operand.tmp 3) 2) (T := 0) (v := ?vq48x) rfl rfl rfl rfl (by kernel_rfl) (by kernel_rfl) (by kernel_rfl) (fun _ _ _ h => h) (by rfl) ?hq48x hHeld ?rq48x
          case hq48x => (intro w' hSw; (try dsimp only at hSw); go_simp <;> with_reducible rfl)
          try simp only [Act.put, List.setIfInBounds_toArray, List.set_cons_zero, List.set_cons_succ]
          refine take_op (i := 48) (d := 69) (OP := Op.load 9 (Operand.tmp 68)) (T := 9) (v := ?vq49x) rfl rfl rfl rfl (by kernel_rfl) (by kernel_rfl) (by kernel_rfl) (fun _ _ _ h => h) (by rfl) ?hq49x hHeld ?rq49x
          case hq49x => (intro w' hSw; (try dsimp only at hSw); go_simp <;> with_reducible rfl)
          try simp only [Act.put, List.setIfInBounds_toArray, List.set_cons_zero, List.set_cons_succ]
          refine take_op (i := 49) (d := 70) (OP := Op.fieldAddr 47 (Operand.tmp 4) 2) (T := 0) (v := ?vq50x) rfl rfl rfl rfl (by kernel_rfl) (by kernel_rfl) (by kernel_rfl) (fun _ _ _ h => h) (by rfl) ?hq50x hHeld ?rq50x
          case hq50x => (intro w' hSw; (try dsimp only at hSw); go_simp <;> with_reducible rfl)
          try simp only [Act.put, List.setIfInBounds_toArray, List.set_cons_zero, List.set_cons_succ]
          refine take_op (i := 50) (d := 71) (OP := Op.load 9 (Operand.tmp 70)) (T := 9) (v := ?vq51x) rfl rfl rfl rfl (by kernel_rfl) (by kernel_rfl) (by kernel_rfl) (fun _ _ _ h => h) (by rfl) ?hq51x hHeld ?rq51x
          case hq51x => (intro w' hSw; (try dsimp only at hSw); go_simp <;> with_reducible rfl)
          try simp only [Act.put, List.setIfInBounds_toArray, List.set_cons_zero, List.set_cons_succ]
          refine take_op (i := 52) (d := 73) (OP := Op.fieldAddr 47 (Operand.tmp 4) 2) (T := 0) (v := ?vq52x) rfl rfl rfl rfl (by kernel_rfl) (by kernel_rfl) (by kernel_rfl) (fun _ _ _ h => h) (by rfl) ?hq52x hHeld ?rq52x
          case hq52x => (intro w' hSw; (try dsimp only at hSw); go_simp <;> with_reducible rfl)
          try simp only [Act.put, List.setIfInBounds_toArray, List.set_cons_zero, List.set_cons_succ]
          refine take_op (i := 53) (d := 74) (OP := Op.load 9 (Operand.tmp 73)) (T := 9) (v := ?vq53x) rfl rfl rfl rfl (by kernel_rfl) (by kernel_rfl) (by kernel_rfl) (fun _ _ _ h => h) (by rfl) ?hq53x hHeld ?rq53x
          case hq53x => (intro w' hSw; (try dsimp only at hSw); go_simp <;> with_reducible rfl)
          try simp only [Act.put, List.setIfInBounds_toArray, List.set_cons_zero, List.set_cons_succ]
          refine take_op (i := 54) (d := 75) (OP := Op.fieldAddr 47 (Operand.tmp 3) 2) (T := 0) (v := ?vq54x) rfl rfl rfl rfl (by kernel_rfl) (by kernel_rfl) (by kernel_rfl) (fun _ _ _ h => h) (by rfl) ?hq54x hHeld ?rq54x
          case hq54x => (intro w' hSw; (try dsimp only at hSw); go_simp <;> with_reducible rfl)
          try simp only [Act.put, List.setIfInBounds_toArray, List.set_cons_zero, List.set_cons_succ]
          refine take_op (i := 55) (d := 76) (OP := Op.load 9 (Operand.tmp 75)) (T := 9) (v := ?vq55x) rfl rfl rfl rfl (by kernel_rfl) (by kernel_rfl) (by kernel_rfl) (fun _ _ _ h => h) (by rfl) ?hq55x hHeld ?rq55x
          case hq55x => (intro w' hSw; (try dsimp only at hSw); go_simp <;> with_reducible rfl)
          try simp only [Act.put, List.setIfInBounds_toArray, List.set_cons_zero, List.set_cons_succ]
          refine call_op (i := 51) (d := 72) (OP := Op.call { callee := Callee.value (Operand.func 29), args := #[Operand.tmp 69, Operand.tmp 71], argTypes := #[9, 9] }) (T := 3) (f := 29) (args := #[.string s0, .string s1]) rfl rfl rfl rfl (by kernel_rfl) (by rfl) (by go_simp) ?_
          refine (q01 _).mono ?_
          rintro e w7x ⟨rfl, hw7⟩
          subst hw7
          refine ⟨_, rfl, hHeld, ?_⟩
          replace hHeld := hHeld
          try simp only [Act.put, List.setIfInBounds_toArray, List.set_cons_zero, List.set_cons_succ]
          refine call_op (i := 56) (d := 77) (OP := Op.call { callee := Callee.value (Operand.func 29), args := #[Operand.tmp 74, Operand.tmp 76], argTypes := #[9, 9] }) (T := 3) (f := 29) (args := #[.string s1, .string s0]) rfl rfl rfl rfl (by kernel_rfl) (by rfl) (by go_simp) ?_
          refine (q10 _).mono ?_
          rintro e w8x ⟨rfl, hw8⟩
          subst hw8
          refine ⟨_, rfl, hHeld, ?_⟩
          replace hHeld := hHeld
          try simp only [Act.put, List.setIfInBounds_toArray, List.set_cons_zero, List.set_cons_succ]
          refine take_op (i := 57) (d := 78) (OP := Op.unOp UnOp.neg 3 (Operand.tmp 77)) (T := 3) (v := ?vq58x) rfl rfl rfl rfl (by kernel_rfl) (by kernel_rfl) (by kernel_rfl) (fun _ _ _ h => h) (by rfl) ?hq58x hHeld ?rq58x
          case hq58x => (intro w' hSw; (try dsimp only at hSw); go_simp <;> with_reducible rfl)
          try simp only [Act.put, List.setIfInBounds_toArray, List.set_cons_zero, List.set_cons_succ]
          refine take_op (i := 58) (d := 79) (OP := Op.binOp BinOp.neq 3 (Operand.tmp 72) (Operand.tmp 78) 3) (T := 4) (v := ?vq59x) rfl rfl rfl rfl (by kernel_rfl) (by kernel_rfl) (by kernel_rfl) (fun _ _ _ h => h) (by rfl) ?hq59x hHeld ?rq59x
          case hq59x => (intro w' hSw; (try dsimp only at hSw); go_simp <;> with_reducible rfl)
          try simp only [Act.put, List.setIfInBounds_toArray, List.set_cons_zero, List.set_cons_succ]
          refine take_op (i := 59) (d := 80) (OP := Op.pick (Operand.tmp 67) (Operand.const (Value.bool true)) (Operand.tmp 79)) (T := 4) (v := ?vq60x) rfl rfl rfl rfl (by kernel_rfl) (by kernel_rfl) (by kernel_rfl) (fun _ _ _ h => h) (by rfl) ?hq60x hHeld ?rq60x
          case hq60x => (intro w' hSw; (try dsimp only at hSw); go_simp <;> with_reducible rfl)
          try simp only [Act.put, List.setIfInBounds_toArray, List.set_cons_zero, List.set_cons_succ]
          refine wpAnyH_done (by kernel_rfl) ?_ _
          go_wp2
          go_meet
          exact ⟨rfl, hide ⟨HPP.out.1.below hBC, HPP.out.2.1.below hBC, hBW⟩⟩
    case rest =>
      obtain ⟨rfl, HD⟩ := hcut
      clear k01 k10 k00 k12 k02 q01 q10 nw1 nw2 nw3 gtr hS0 hBC hBW p01 p10
      obtain ⟨pA, pB, hBd⟩ := HD.out
      obtain ⟨r0, r1, r2⟩ := HR.out
      obtain ⟨e0, e1, e2⟩ := HN.out
      have hTd := HTT.out
      have j0 : ∀ W, Below w.heap.size w W → Calls Tryd.prog 23 #[.slice a0 N0 c0] W fun e w' => e = .returned (joinE l0) ∧ Below W.heap.size W w' := fun W hW => by rw [e0]; exact join_any (r0.below hW) hc0 n0 (Tabs.below hTd hW) (by omega)
      have j1 : ∀ W, Below w.heap.size w W → Calls Tryd.prog 23 #[.slice a1 N1 c1] W fun e w' => e = .returned (joinE l1) ∧ Below W.heap.size W w' := fun W hW => by rw [e1]; exact join_any (r1.below hW) hc1 n1 (Tabs.below hTd hW) (by omega)
      obtain ⟨u0, u1, u2⟩ := pA.cells
      obtain ⟨v0, v1, v2⟩ := pB.cells
      have hBx := hBd
      have hBD : Below wc.heap.size wc wc := Below.refl _ _
      have hkeep : ∀ (W : World), Below wc.heap.size wc W → W.cell? ⟨A, 0, none⟩ = some (.slice a0 N0 c0) ∧ W.cell? ⟨B, 0, none⟩ = some (.slice a1 N1 c1) := fun W hW => ⟨(hW.cell (World.block_lt_of_cell? _ _ u0)).trans u0, (hW.cell (World.block_lt_of_cell? _ _ v0)).trans v0⟩
      have HKP := hide hkeep
      clear hkeep r0 r1 r2 e0 e1 e2 pA pB hTd
      cases hp0 : pathB l0 with
      | false =>
        rw [show joinE l0 = .tuple #[.string ⟨#[]⟩, .int .i64 2] by rw [joinE, hp0]; rfl] at j0
        cases hp1 : pathB l1 with
        | false =>
          rw [show joinE l1 = .tuple #[.string ⟨#[]⟩, .int .i64 2] by rw [joinE, hp1]; rfl] at j1
          go_wp2_with (first
            | (go_at_call 23; refine (j0 _ hBx).mono ?_; rintro e wj ⟨rfl, bj⟩; replace hBx := hBx.trans (bj.mono hBx.size); replace hBD := hBD.trans (bj.mono hBD.size); clear j0; have vj := (HKP.out _ hBD).2; clear bj; dsimp only)
            | (go_at_call 23; refine (j1 _ hBx).mono ?_; rintro e wj ⟨rfl, bj⟩; replace hBx := hBx.trans (bj.mono hBx.size); clear j1 bj; dsimp only)
            | (go_at_call 21; refine (num_any _ _).mono ?_; rintro e w' ⟨rfl, rfl⟩; dsimp only))
          go_ret
          exact ⟨rfl, hBx⟩
        | true =>
          rw [show joinE l1 = .tuple #[.string ⟨(joinB l1).toArray⟩, .int .i64 0] by rw [joinE, hp1]; rfl] at j1
          go_wp2_with (first
            | (go_at_call 23; refine (j0 _ hBx).mono ?_; rintro e wj ⟨rfl, bj⟩; replace hBx := hBx.trans (bj.mono hBx.size); replace hBD := hBD.trans (bj.mono hBD.size); clear j0; have vj := (HKP.out _ hBD).2; clear bj; dsimp only)
            | (go_at_call 23; refine (j1 _ hBx).mono ?_; rintro e wj ⟨rfl, bj⟩; replace hBx := hBx.trans (bj.mono hBx.size); clear j1 bj; dsimp only)
            | (go_at_call 21; refine (num_any _ _).mono ?_; rintro e w' ⟨rfl, rfl⟩; dsimp only))
          go_ret
          exact ⟨rfl, hBx⟩
      | true =>
        rw [show joinE l0 = .tuple #[.string ⟨(joinB l0).toArray⟩, .int .i64 0] by rw [joinE, hp0]; rfl] at j0
        cases hp1 : pathB l1 with
        | false =>
          rw [show joinE l1 = .tuple #[.string ⟨#[]⟩, .int .i64 2] by rw [joinE, hp1]; rfl] at j1
          go_wp2_with (first
            | (go_at_call 23; refine (j0 _ hBx).mono ?_; rintro e wj ⟨rfl, bj⟩; replace hBx := hBx.trans (bj.mono hBx.size); replace hBD := hBD.trans (bj.mono hBD.size); clear j0; have vj := (HKP.out _ hBD).2; clear bj; dsimp only)
            | (go_at_call 23; refine (j1 _ hBx).mono ?_; rintro e wj ⟨rfl, bj⟩; replace hBx := hBx.trans (bj.mono hBx.size); clear j1 bj; dsimp only)
            | (go_at_call 21; refine (num_any _ _).mono ?_; rintro e w' ⟨rfl, rfl⟩; dsimp only))
          go_ret
          exact ⟨rfl, hBx⟩
        | true =>
          rw [show joinE l1 = .tuple #[.string ⟨(joinB l1).toArray⟩, .int .i64 0] by rw [joinE, hp1]; rfl] at j1
          have hjl := join_length hp0
          have hsp : ∀ W, Below w.heap.size w W → Calls Tryd.prog 8 #[.string ⟨(joinB l0).toArray⟩] W fun e w' => (∃ ao c, e = .returned (.tuple #[.slice ao N0 c, .int .i64 0]) ∧ Hid (Rs w' ao l0)) ∧ Below W.heap.size W w' := fun W hW => by
            refine (split_any ⟨(joinB l0).toArray⟩ W (by simp [ByteArray.size]; omega) (Tabs.below HTT.out hW)).mono ?_
            rintro e w' ⟨hE, b⟩
            refine ⟨?_, b⟩
            have hsj : splitB (⟨(joinB l0).toArray⟩ : ByteArray).data.toList = some (l0.map (fun s => s.data.toList)) := split_join hp0
            rw [hsj] at hE
            rcases hE with ⟨h, _⟩ | ⟨L, v, q1, q2, q3⟩
            · cases h
            · cases q1
              rw [keysOf_map] at q3
              obtain ⟨ao, c, rfl, hr, _⟩ := q3.shape
              rw [← HN.out.1] at q2
              exact ⟨ao, c, q2, hide hr⟩
          have hpp : ∀ (W : World) (ao : Option Addr) (c : Nat), Hid (Rs W ao l0) → Below w.heap.size w W → Calls Tryd.prog 31 #[.slice ao N0 c, .slice a0 N0 c0] W fun e w' => e = .returned (.int .i64 0) ∧ w' = W := fun W ao c hr hW => by
            have h := cmpPath_any (c := c) (d := c0) hr.out (HR.out.1.below hW) (by omega)
            rw [ord_P.refl l0, ← HN.out.1] at h
            exact h
          have p01 : ∀ W, Below w.heap.size w W → Calls Tryd.prog 31 #[.slice a0 N0 c0, .slice a1 N1 c1] W fun e w' => e = .returned (.int .i64 (cmpP l0 l1)) ∧ w' = W := fun W hW => by rw [HN.out.1, HN.out.2.1]; exact cmpPath_any (HR.out.1.below hW) (HR.out.2.1.below hW) (by omega)
          have hsame : ((⟨(joinB l0).toArray⟩ : ByteArray).toList == (⟨(joinB l1).toArray⟩ : ByteArray).toList) = (cmpP l0 l1 == 0) := by
            rw [ByteArray.toList_eq, ByteArray.toList_eq]
            by_cases he : l0 = l1
            · rw [he, ord_P.refl]; simp
            · have h1 : ¬ cmpP l0 l1 = 0 := fun h => he (ord_P.eq _ _ h)
              have h2 : ¬ joinB l0 = joinB l1 := fun h => he (join_inj hp0 hp1 h)
              rw [beq_eq_false_iff_ne.2 h1, beq_eq_false_iff_ne]
              simpa using h2
          generalize hS : (⟨(joinB l0).toArray⟩ : ByteArray) = S0 at hsame hsp j0
          generalize hS' : (⟨(joinB l1).toArray⟩ : ByteArray) = S1 at hsame j1
          generalize cmpP l0 l1 = pab' at hsame p01
          clear HPP HQ hjl u0 u1 u2 v0 v1 v2 hBd HB1
          have u0 := (HKP.out _ hBD).1
          have v0 := (HKP.out _ hBD).2
          go_upto_region 11 with (first
            | (go_at_call 23; refine (j0 _ hBx).mono ?_; rintro e wj ⟨rfl, bj⟩; replace hBx := hBx.trans (bj.mono hBx.size); replace hBD := hBD.trans (bj.mono hBD.size); clear j0; have vj := (HKP.out _ hBD).2; clear bj; dsimp only)
            | (go_at_call 23; refine (j1 _ hBx).mono ?_; rintro e wj ⟨rfl, bj⟩; replace hBx := hBx.trans (bj.mono hBx.size); replace hBD := hBD.trans (bj.mono hBD.size); clear j1 bj; dsimp only)
            | (go_at_call 21; refine (num_any _ _).mono ?_; rintro e w' ⟨rfl, hww⟩; have hwx := hww.symm; clear hww; subst hwx; dsimp only)
            | (go_at_call 8; refine (hsp _ hBx).mono ?_; rintro e wj ⟨⟨aS, cS, rfl, hRS⟩, bj⟩; replace hBx := hBx.trans (bj.mono hBx.size); replace hBD := hBD.trans (bj.mono hBD.size); clear hsp; have vj1 := (HKP.out _ hBD).1; have vj2 := (HKP.out _ hBD).2; have hpp' := hpp _ _ cS hRS hBx; have p01' := p01 _ hBx; clear bj; dsimp only))
          go_cut [125] (fun v125 wf => v125 = .bool false ∧ wf = wj)
          case first =>
            as_aux_lemma =>
              cases hz : (pab' == 0) with
              | true =>
                rw [hz] at hsame
                go_wp2_with (first
                  | (go_at_call 21; refine (num_any _ _).mono ?_; rintro e w' ⟨rfl, hww⟩; have hwx := hww.symm; clear hww; subst hwx; dsimp only)
                  | (go_at_call 31; refine hpp'.mono ?_; rintro e w' ⟨rfl, hww⟩; have hwx := hww.symm; clear hww; subst hwx; clear hpp'; dsimp only)
                  | (go_at_call 31; refine p01'.mono ?_; rintro e w' ⟨rfl, hww⟩; have hwx := hww.symm; clear hww; subst hwx; clear p01'; dsimp only))
                go_meet
                exact ⟨rfl, rfl⟩
              | false =>
                rw [hz] at hsame
                go_wp2_with (first
                  | (go_at_call 21; refine (num_any _ _).mono ?_; rintro e w' ⟨rfl, hww⟩; have hwx := hww.symm; clear hww; subst hwx; dsimp only)
                  | (go_at_call 31; refine hpp'.mono ?_; rintro e w' ⟨rfl, hww⟩; have hwx := hww.symm; clear hww; subst hwx; clear hpp'; dsimp only)
                  | (go_at_call 31; refine p01'.mono ?_; rintro e w' ⟨rfl, hww⟩; have hwx := hww.symm; clear hww; subst hwx; clear p01'; dsimp only))
                go_meet
                exact ⟨rfl, rfl⟩
          case rest =>
            obtain ⟨rfl, hwf⟩ := hcut
            have hwx := hwf.symm
            clear hwf
            subst hwx
            go_upto_region 13 with fail
            have HPT := hide (And.intro ((HD.out.1).below hBD) (And.intro ((HD.out.2.1).below hBD) hBx))
            obtain ⟨cA0, cA1, cA2⟩ := HPT.out.1.cells
            obtain ⟨cB0, cB1, cB2⟩ := HPT.out.2.1.cells
            have hSM : Below wj.heap.size wj wj.drew := (Below.refl _ wj).drew
            have ap1 : ∀ W, Below wj.heap.size wj W → ∃ v W', (Builtin.append_ #[23, 23] 23 #[.slice none 0 0, .slice a0 N0 c0]).run Tryd.prog W = .ok v W' ∧ Os W' wj.heap.size v l0 ∧ Below W.heap.size W W' := fun W hW => by
              rw [HN.out.1]
              exact app1 (HR.out.1.below (HPT.out.2.2.trans (hW.mono HPT.out.2.2.size))) n0 z0 _ hW.size
            have ap2 : ∀ (W : World) (v : Value) (g : Nat), Below wj.heap.size wj W → Os W wj.heap.size v l0 → W.cell? ⟨g, 0, none⟩ = some (.string s1) → ∃ v' W', (Builtin.append_ #[23, 23] 23 #[v, .slice (some ⟨g, 0, none⟩) 1 1]).run Tryd.prog W = .ok v' W' ∧ Os W' wj.heap.size v' (l0 ++ [s1]) ∧ W.grownBy W' v.ownBlock := fun W v g hW hO hg => app2 hO hg z0 hW.size
            clear vj1 vj2 vj u0 v0 hsame hBx hBD HKP hRS hpp p01 hpp' p01'
            go_cut [12] (fun v12 wf => ∃ D a' c', v12 = .pointer (some ⟨D, 0, none⟩) ∧ Hid (PAt wf A a0 N0 c0 x0 s0 ∧ PAt wf D a' (N0 + 1) c' x1 s1 ∧ Rs wf a' (l0 ++ [s1]) ∧ Below w.heap.size w wf))
            case first =>
              as_aux_lemma =>
                refine wp_region_held_drew (S := (fun W => Below wj.heap.size wj W)) (by kernel_rfl) (by exact hSM) (fun hHeld => ?_)
                try dsimp only at hHeld
                refine take_op (i := 0) (d := 126) (OP := Op.fieldAddr 47 (Operand.tmp 3) 0) (T := 0) (v := .pointer (some ⟨A, 0, none⟩)) rfl rfl rfl rfl (by kernel_rfl) (by kernel_rfl) (by kernel_rfl) (fun _ _ _ h => h) (by rfl) ?hz1x hHeld ?rz1x
                case hz1x => (intro w' hSw; exact (exec_field rfl).1)
                try simp only [Act.put, List.setIfInBounds_toArray, List.set_cons_zero, List.set_cons_succ]
                refine take_op (i := 1) (d := 127) (OP := Op.load 23 (Operand.tmp 126)) (T := 23) (v := .slice a0 N0 c0) rfl rfl rfl rfl (by kernel_rfl) (by kernel_rfl) (by kernel_rfl) (fun _ _ _ h => h) (by rfl) ?hz2x hHeld ?rz2x
                case hz2x => (intro w' hSw; exact exec_load23 rfl ((Below.cell hSw (World.block_lt_of_cell? _ _ cA0)).trans cA0))
                try simp only [Act.put, List.setIfInBounds_toArray, List.set_cons_zero, List.set_cons_succ]
                refine take_op (i := 3) (d := 129) (OP := Op.fieldAddr 47 (Operand.tmp 4) 2) (T := 0) (v := .pointer (some ⟨B, 2, none⟩)) rfl rfl rfl rfl (by kernel_rfl) (by kernel_rfl) (by kernel_rfl) (fun _ _ _ h => h) (by rfl) ?hz3x hHeld ?rz3x
                case hz3x => (intro w' hSw; exact (exec_field rfl).2.2)
                try simp only [Act.put, List.setIfInBounds_toArray, List.set_cons_zero, List.set_cons_succ]
                refine take_op (i := 4) (d := 130) (OP := Op.load 9 (Operand.tmp 129)) (T := 9) (v := .string s1) rfl rfl rfl rfl (by kernel_rfl) (by kernel_rfl) (by kernel_rfl) (fun _ _ _ h => h) (by rfl) ?hz4x hHeld ?rz4x
                case hz4x => (intro w' hSw; exact exec_load9 rfl ((Below.cell hSw (World.block_lt_of_cell? _ _ cB2)).trans cB2))
                try simp only [Act.put, List.setIfInBounds_toArray, List.set_cons_zero, List.set_cons_succ]
                refine take_op (i := 7) (d := 133) (OP := Op.fieldAddr 47 (Operand.tmp 4) 1) (T := 0) (v := .pointer (some ⟨B, 1, none⟩)) rfl rfl rfl rfl (by kernel_rfl) (by kernel_rfl) (by kernel_rfl) (fun _ _ _ h => h) (by rfl) ?hz5x hHeld ?rz5x
                case hz5x => (intro w' hSw; exact (exec_field rfl).2.1)
                try simp only [Act.put, List.setIfInBounds_toArray, List.set_cons_zero, List.set_cons_succ]
                refine take_op (i := 8) (d := 134) (OP := Op.load 45 (Operand.tmp 133)) (T := 45) (v := .int .i64 x1) rfl rfl rfl rfl (by kernel_rfl) (by kernel_rfl) (by kernel_rfl) (fun _ _ _ h => h) (by rfl) ?hz6x hHeld ?rz6x
                case hz6x => (intro w' hSw; exact exec_load45 rfl ((Below.cell hSw (World.block_lt_of_cell? _ _ cB1)).trans cB1))
                try simp only [Act.put, List.setIfInBounds_toArray, List.set_cons_zero, List.set_cons_succ]
                refine take_op (i := 9) (d := 135) (OP := Op.fieldAddr 47 (Operand.tmp 4) 2) (T := 0) (v := .pointer (some ⟨B, 2, none⟩)) rfl rfl rfl rfl (by kernel_rfl) (by kernel_rfl) (by kernel_rfl) (fun _ _ _ h => h) (by rfl) ?hz7x hHeld ?rz7x
                case hz7x => (intro w' hSw; exact (exec_field rfl).2.2)
                try simp only [Act.put, List.setIfInBounds_toArray, List.set_cons_zero, List.set_cons_succ]
                refine take_op (i := 10) (d := 136) (OP := Op.load 9 (Operand.tmp 135)) (T := 9) (v := .string s1) rfl rfl rfl rfl (by kernel_rfl) (by kernel_rfl) (by kernel_rfl) (fun _ _ _ h => h) (by rfl) ?hz8x hHeld ?rz8x
                case hz8x => (intro w' hSw; exact exec_load9 rfl ((Below.cell hSw (World.block_lt_of_cell? _ _ cB2)).trans cB2))
                try simp only [Act.put, List.setIfInBounds_toArray, List.set_cons_zero, List.set_cons_succ]
                refine goes3 (i := 2) (j := 5) (l := 12) (by kernel_rfl) ?_ ?_ ?_
                · obtain ⟨v9, W9, run9, hO9, b9⟩ := ap1 wj.drew hHeld
                  have hS9 : Below wj.heap.size wj W9 := (hHeld).trans (b9.mono (hHeld).size)
                  refine Goes.mk (i := 2) (d := 128) (OP := Op.call { callee := Callee.builtin Builtin.append, args := #[Operand.const (Value.slice none 0 0), Operand.tmp 127], argTypes := #[23, 23] }) (T := 23) (v := v9) (w' := W9) rfl rfl rfl rfl (by rfl) (exec_append rfl rfl run9) hS9 ?_
                  try simp only [Act.put, List.setIfInBounds_toArray, List.set_cons_zero, List.set_cons_succ]
                  refine goes2 (i := 5) (j := 12) (by kernel_rfl) ?_ ?_
                  · have b10 : Below W9.heap.size W9 (W9.alloc (.cells #[.string s1] 9)) := (Below.refl _ _).alloc (Nat.le_refl _) _
                    have hg10 : (W9.alloc (.cells #[.string s1] 9)).cell? ⟨W9.heap.size, 0, none⟩ = some (.string s1) := by rw [cell_of_row _ _ 0 _ 9 (0, 0) (heap_alloc_new _ _)]; rfl
                    have hS10 : Below wj.heap.size wj (W9.alloc (.cells #[.string s1] 9)) := (hS9).trans (b10.mono (hS9).size)
                    have hO110 := (hO9).below b10
                    refine Goes.mk (i := 5) (d := 131) (OP := Op.buildSlice 23 1 #[(0, Operand.tmp 130)]) (T := 23) (v := .slice (some ⟨W9.heap.size, 0, none⟩) 1 1) (w' := (W9.alloc (.cells #[.string s1] 9))) rfl rfl rfl rfl (by rfl) (exec_slice1 rfl) hS10 ?_
                    try simp only [Act.put, List.setIfInBounds_toArray, List.set_cons_zero, List.set_cons_succ]
                    refine goes2 (i := 6) (j := 12) (by kernel_rfl) ?_ ?_
                    · obtain ⟨v11, W11, run11, hO11, gw11⟩ := ap2 (W9.alloc (.cells #[.string s1] 9)) v9 W9.heap.size hS10 hO110 hg10
                      obtain ⟨a', c', hv11, hr11, -, -, -⟩ := (hO11).shape
                      subst hv11
                      have hS11 : Below wj.heap.size wj W11 := (hS10).grown gw11 (hS10).size (fun k hk => (World.ownsRow.lt hO110 k hk).1)
                      refine Goes.mk (i := 6) (d := 132) (OP := Op.call { callee := Callee.builtin Builtin.append, args := #[Operand.tmp 128, Operand.tmp 131], argTypes := #[23, 23] }) (T := 23) (v := (.slice a' (l0 ++ [s1]).length c')) (w' := W11) rfl rfl rfl rfl (by rfl) (exec_append rfl rfl run11) hS11 ?_
                      try simp only [Act.put, List.setIfInBounds_toArray, List.set_cons_zero, List.set_cons_succ]
                      refine take_op (i := 11) (d := 137) (OP := Op.build 47 #[(0, Operand.tmp 132), (1, Operand.tmp 134), (2, Operand.tmp 136)]) (T := 47) (v := .agg #[.slice a' (l0 ++ [s1]).length c', .int .i64 x1, .string s1]) rfl rfl rfl rfl (by kernel_rfl) (by kernel_rfl) (by kernel_rfl) (fun _ _ _ h => h) (by rfl) ?hz12x hS11 ?rz12x
                      case hz12x => (intro w' hSw; exact exec_build47 rfl rfl rfl)
                      try simp only [Act.put, List.setIfInBounds_toArray, List.set_cons_zero, List.set_cons_succ]
                      refine goes1 (i := 12) (by kernel_rfl) ?_
                      · have b13 : Below W11.heap.size W11 (W11.alloc (.cells #[.slice none 0 0, .int .i64 0, .string ⟨#[]⟩] 47)) := (Below.refl _ _).alloc (Nat.le_refl _) _
                        have hD13 : (W11.alloc (.cells #[.slice none 0 0, .int .i64 0, .string ⟨#[]⟩] 47)).heap[W11.heap.size]? = some (.cells #[.slice none 0 0, .int .i64 0, .string ⟨#[]⟩] 47) := heap_alloc_new _ _
                        have hDl13 : wj.heap.size ≤ W11.heap.size := (hS11).size
                        have hS13 : Below wj.heap.size wj (W11.alloc (.cells #[.slice none 0 0, .int .i64 0, .string ⟨#[]⟩] 47)) := (hS11).trans (b13.mono (hS11).size)
                        have hO213 := (hO11).below b13
                        refine Goes.mk (i := 12) (d := 12) (OP := Op.alloc 47) (T := 0) (v := .pointer (some ⟨W11.heap.size, 0, none⟩)) (w' := (W11.alloc (.cells #[.slice none 0 0, .int .i64 0, .string ⟨#[]⟩] 47))) rfl rfl rfl rfl (by rfl) (exec_alloc47) hS13 ?_
                        try simp only [Act.put, List.setIfInBounds_toArray, List.set_cons_zero, List.set_cons_succ]
                        obtain ⟨d0, d1, d2, f0, f1, f2⟩ := blk3 hD13
                        have hSf : Below wj.heap.size wj ((((W11.alloc (.cells #[.slice none 0 0, .int .i64 0, .string ⟨#[]⟩] 47)).setCell ⟨W11.heap.size, 0, none⟩ (.slice a' (l0 ++ [s1]).length c')).setCell ⟨W11.heap.size, 1, none⟩ (.int .i64 x1)).setCell ⟨W11.heap.size, 2, none⟩ (.string s1)) := Below.only hS13 (three_only _ _ _ _ _) (hS13).size (fun j e => by subst e; exact hDl13)
                        refine skip_op (i := 13) (OP := Op.store 47 (Operand.tmp 12) (Operand.tmp 137)) (T := 0) (w' := ((((W11.alloc (.cells #[.slice none 0 0, .int .i64 0, .string ⟨#[]⟩] 47)).setCell ⟨W11.heap.size, 0, none⟩ (.slice a' (l0 ++ [s1]).length c')).setCell ⟨W11.heap.size, 1, none⟩ (.int .i64 x1)).setCell ⟨W11.heap.size, 2, none⟩ (.string s1))) rfl rfl rfl rfl (by kernel_rfl) (by rfl) (exec_store47 rfl rfl d0 d1 d2 f0 f1 f2) ⟨hSf, ?_⟩
                        refine wpAnyH_done (by kernel_rfl) ?_ _
                        have hOf := (hO213).only (three_only (W11.alloc (.cells #[.slice none 0 0, .int .i64 0, .string ⟨#[]⟩] 47)) W11.heap.size (.slice a' (l0 ++ [s1]).length c') (.int .i64 x1) (.string s1)) (fun k hk e => Lib.ownBlock_ne (hO213) hD13 (by decide) (by rw [hk, e]))
                        obtain ⟨a2', c2', hv2, hr2, -, -, -⟩ := hOf.shape
                        cases hv2
                        go_wp2
                        go_meet
                        exact ⟨W11.heap.size, a', c', rfl, hide ⟨HPT.out.1.below hSf, by rw [HN.out.1]; have := three_set (u := .slice a' (l0 ++ [s1]).length c') (v := .int .i64 x1) (t := .string s1) hD13; simpa [PAt] using this, hr2, HPT.out.2.2.trans (hSf.mono HPT.out.2.2.size)⟩⟩
                    · have b14 : Below (W9.alloc (.cells #[.string s1] 9)).heap.size (W9.alloc (.cells #[.string s1] 9)) ((W9.alloc (.cells #[.string s1] 9)).alloc (.cells #[.slice none 0 0, .int .i64 0, .string ⟨#[]⟩] 47)) := (Below.refl _ _).alloc (Nat.le_refl _) _
                      have hD14 : ((W9.alloc (.cells #[.string s1] 9)).alloc (.cells #[.slice none 0 0, .int .i64 0, .string ⟨#[]⟩] 47)).heap[(W9.alloc (.cells #[.string s1] 9)).heap.size]? = some (.cells #[.slice none 0 0, .int .i64 0, .string ⟨#[]⟩] 47) := heap_alloc_new _ _
                      have hDl14 : wj.heap.size ≤ (W9.alloc (.cells #[.string s1] 9)).heap.size := (hS10).size
                      have hS14 : Below wj.heap.size wj ((W9.alloc (.cells #[.string s1] 9)).alloc (.cells #[.slice none 0 0, .int .i64 0, .string ⟨#[]⟩] 47)) := (hS10).trans (b14.mono (hS10).size)
                      have hO114 := (hO110).below b14
                      have hgg14 := (b14.cell (World.block_lt_of_cell? _ _ hg10)).trans hg10
                      refine Goes.mk (i := 12) (d := 12) (OP := Op.alloc 47) (T := 0) (v := .pointer (some ⟨(W9.alloc (.cells #[.string s1] 9)).heap.size, 0, none⟩)) (w' := ((W9.alloc (.cells #[.string s1] 9)).alloc (.cells #[.slice none 0 0, .int .i64 0, .string ⟨#[]⟩] 47))) rfl rfl rfl rfl (by rfl) (exec_alloc47) hS14 ?_
                      try simp only [Act.put, List.setIfInBounds_toArray, List.set_cons_zero, List.set_cons_succ]
                      refine goes1 (i := 6) (by kernel_rfl) ?_
                      · obtain ⟨v15, W15, run15, hO15, gw15⟩ := ap2 ((W9.alloc (.cells #[.string s1] 9)).alloc (.cells #[.slice none 0 0, .int .i64 0, .string ⟨#[]⟩] 47)) v9 W9.heap.size hS14 hO114 hgg14
                        obtain ⟨a', c', hv15, hr15, -, -, -⟩ := (hO15).shape
                        subst hv15
                        have hS15 : Below wj.heap.size wj W15 := (hS14).grown gw15 (hS14).size (fun k hk => (World.ownsRow.lt hO114 k hk).1)
                        have hD15 := (gw15.block _ (Array.getElem?_eq_some_iff.1 hD14).1 (fun e => Lib.ownBlock_ne hO114 hD14 (by decide) e.symm)).trans hD14
                        refine Goes.mk (i := 6) (d := 132) (OP := Op.call { callee := Callee.builtin Builtin.append, args := #[Operand.tmp 128, Operand.tmp 131], argTypes := #[23, 23] }) (T := 23) (v := (.slice a' (l0 ++ [s1]).length c')) (w' := W15) rfl rfl rfl rfl (by rfl) (exec_append rfl rfl run15) hS15 ?_
                        try simp only [Act.put, List.setIfInBounds_toArray, List.set_cons_zero, List.set_cons_succ]
                        refine take_op (i := 11) (d := 137) (OP := Op.build 47 #[(0, Operand.tmp 132), (1, Operand.tmp 134), (2, Operand.tmp 136)]) (T := 47) (v := .agg #[.slice a' (l0 ++ [s1]).length c', .int .i64 x1, .string s1]) rfl rfl rfl rfl (by kernel_rfl) (by kernel_rfl) (by kernel_rfl) (fun _ _ _ h => h) (by rfl) ?hz16x hS15 ?rz16x
                        case hz16x => (intro w' hSw; exact exec_build47 rfl rfl rfl)
                        try simp only [Act.put, List.setIfInBounds_toArray, List.set_cons_zero, List.set_cons_succ]
                        obtain ⟨d0, d1, d2, f0, f1, f2⟩ := blk3 hD15
                        have hSf : Below wj.heap.size wj (((W15.setCell ⟨(W9.alloc (.cells #[.string s1] 9)).heap.size, 0, none⟩ (.slice a' (l0 ++ [s1]).length c')).setCell ⟨(W9.alloc (.cells #[.string s1] 9)).heap.size, 1, none⟩ (.int .i64 x1)).setCell ⟨(W9.alloc (.cells #[.string s1] 9)).heap.size, 2, none⟩ (.string s1)) := Below.only hS15 (three_only _ _ _ _ _) (hS15).size (fun j e => by subst e; exact hDl14)
                        refine skip_op (i := 13) (OP := Op.store 47 (Operand.tmp 12) (Operand.tmp 137)) (T := 0) (w' := (((W15.setCell ⟨(W9.alloc (.cells #[.string s1] 9)).heap.size, 0, none⟩ (.slice a' (l0 ++ [s1]).length c')).setCell ⟨(W9.alloc (.cells #[.string s1] 9)).heap.size, 1, none⟩ (.int .i64 x1)).setCell ⟨(W9.alloc (.cells #[.string s1] 9)).heap.size, 2, none⟩ (.string s1))) rfl rfl rfl rfl (by kernel_rfl) (by rfl) (exec_store47 rfl rfl d0 d1 d2 f0 f1 f2) ⟨hSf, ?_⟩
                        refine wpAnyH_done (by kernel_rfl) ?_ _
                        have hOf := (hO15).only (three_only W15 (W9.alloc (.cells #[.string s1] 9)).heap.size (.slice a' (l0 ++ [s1]).length c') (.int .i64 x1) (.string s1)) (fun k hk e => Lib.ownBlock_ne (hO15) hD15 (by decide) (by rw [hk, e]))
                        obtain ⟨a2', c2', hv2, hr2, -, -, -⟩ := hOf.shape
                        cases hv2
                        go_wp2
                        go_meet
                        exact ⟨(W9.alloc (.cells #[.string s1] 9)).heap.size, a', c', rfl, hide ⟨HPT.out.1.below hSf, by rw [HN.out.1]; have := three_set (u := .slice a' (l0 ++ [s1]).length c') (v := .int .i64 x1) (t := .string s1) hD15; simpa [PAt] using this, hr2, HPT.out.2.2.trans (hSf.mono HPT.out.2.2.size)⟩⟩
                  · have b17 : Below W9.heap.size W9 (W9.alloc (.cells #[.slice none 0 0, .int .i64 0, .string ⟨#[]⟩] 47)) := (Below.refl _ _).alloc (Nat.le_refl _) _
                    have hD17 : (W9.alloc (.cells #[.slice none 0 0, .int .i64 0, .string ⟨#[]⟩] 47)).heap[W9.heap.size]? = some (.cells #[.slice none 0 0, .int .i64 0, .string ⟨#[]⟩] 47) := heap_alloc_new _ _
                    have hDl17 : wj.heap.size ≤ W9.heap.size := (hS9).size
                    have hS17 : Below wj.heap.size wj (W9.alloc (.cells #[.slice none 0 0, .int .i64 0, .string ⟨#[]⟩] 47)) := (hS9).trans (b17.mono (hS9).size)
                    have hO117 := (hO9).below b17
                    refine Goes.mk (i := 12) (d := 12) (OP := Op.alloc 47) (T := 0) (v := .pointer (some ⟨W9.heap.size, 0, none⟩)) (w' := (W9.alloc (.cells #[.slice none 0 0, .int .i64 0, .string ⟨#[]⟩] 47))) rfl rfl rfl rfl (by rfl) (exec_alloc47) hS17 ?_
                    try simp only [Act.put, List.setIfInBounds_toArray, List.set_cons_zero, List.set_cons_succ]
                    refine goes1 (i := 5) (by kernel_rfl) ?_
                    · have b18 : Below (W9.alloc (.cells #[.slice none 0 0, .int .i64 0, .string ⟨#[]⟩] 47)).heap.size (W9.alloc (.cells #[.slice none 0 0, .int .i64 0, .string ⟨#[]⟩] 47)) ((W9.alloc (.cells #[.slice none 0 0, .int .i64 0, .string ⟨#[]⟩] 47)).alloc (.cells #[.string s1] 9)) := (Below.refl _ _).alloc (Nat.le_refl _) _
                      have hg18 : ((W9.alloc (.cells #[.slice none 0 0, .int .i64 0, .string ⟨#[]⟩] 47)).alloc (.cells #[.string s1] 9)).cell? ⟨(W9.alloc (.cells #[.slice none 0 0, .int .i64 0, .string ⟨#[]⟩] 47)).heap.size, 0, none⟩ = some (.string s1) := by rw [cell_of_row _ _ 0 _ 9 (0, 0) (heap_alloc_new _ _)]; rfl
                      have hS18 : Below wj.heap.size wj ((W9.alloc (.cells #[.slice none 0 0, .int .i64 0, .string ⟨#[]⟩] 47)).alloc (.cells #[.string s1] 9)) := (hS17).trans (b18.mono (hS17).size)
                      have hO118 := (hO117).below b18
                      have hDD18 := (b18.block _ (Array.getElem?_eq_some_iff.1 hD17).1).trans hD17
                      refine Goes.mk (i := 5) (d := 131) (OP := Op.buildSlice 23 1 #[(0, Operand.tmp 130)]) (T := 23) (v := .slice (some ⟨(W9.alloc (.cells #[.slice none 0 0, .int .i64 0, .string ⟨#[]⟩] 47)).heap.size, 0, none⟩) 1 1) (w' := ((W9.alloc (.cells #[.slice none 0 0, .int .i64 0, .string ⟨#[]⟩] 47)).alloc (.cells #[.string s1] 9))) rfl rfl rfl rfl (by rfl) (exec_slice1 rfl) hS18 ?_
                      try simp only [Act.put, List.setIfInBounds_toArray, List.set_cons_zero, List.set_cons_succ]
                      refine goes1 (i := 6) (by kernel_rfl) ?_
                      · obtain ⟨v19, W19, run19, hO19, gw19⟩ := ap2 ((W9.alloc (.cells #[.slice none 0 0, .int .i64 0, .string ⟨#[]⟩] 47)).alloc (.cells #[.string s1] 9)) v9 (W9.alloc (.cells #[.slice none 0 0, .int .i64 0, .string ⟨#[]⟩] 47)).heap.size hS18 hO118 hg18
                        obtain ⟨a', c', hv19, hr19, -, -, -⟩ := (hO19).shape
                        subst hv19
                        have hS19 : Below wj.heap.size wj W19 := (hS18).grown gw19 (hS18).size (fun k hk => (World.ownsRow.lt hO118 k hk).1)
                        have hD19 := (gw19.block _ (Array.getElem?_eq_some_iff.1 hDD18).1 (fun e => Lib.ownBlock_ne hO118 hDD18 (by decide) e.symm)).trans hDD18
                        refine Goes.mk (i := 6) (d := 132) (OP := Op.call { callee := Callee.builtin Builtin.append, args := #[Operand.tmp 128, Operand.tmp 131], argTypes := #[23, 23] }) (T := 23) (v := (.slice a' (l0 ++ [s1]).length c')) (w' := W19) rfl rfl rfl rfl (by rfl) (exec_append rfl rfl run19) hS19 ?_
                        try simp only [Act.put, List.setIfInBounds_toArray, List.set_cons_zero, List.set_cons_succ]
                        refine take_op (i := 11) (d := 137) (OP := Op.build 47 #[(0, Operand.tmp 132), (1, Operand.tmp 134), (2, Operand.tmp 136)]) (T := 47) (v := .agg #[.slice a' (l0 ++ [s1]).length c', .int .i64 x1, .string s1]) rfl rfl rfl rfl (by kernel_rfl) (by kernel_rfl) (by kernel_rfl) (fun _ _ _ h => h) (by rfl) ?hz20x hS19 ?rz20x
                        case hz20x => (intro w' hSw; exact exec_build47 rfl rfl rfl)
                        try simp only [Act.put, List.setIfInBounds_toArray, List.set_cons_zero, List.set_cons_succ]
                        obtain ⟨d0, d1, d2, f0, f1, f2⟩ := blk3 hD19
                        have hSf : Below wj.heap.size wj (((W19.setCell ⟨W9.heap.size, 0, none⟩ (.slice a' (l0 ++ [s1]).length c')).setCell ⟨W9.heap.size, 1, none⟩ (.int .i64 x1)).setCell ⟨W9.heap.size, 2, none⟩ (.string s1)) := Below.only hS19 (three_only _ _ _ _ _) (hS19).size (fun j e => by subst e; exact hDl17)
                        refine skip_op (i := 13) (OP := Op.store 47 (Operand.tmp 12) (Operand.tmp 137)) (T := 0) (w' := (((W19.setCell ⟨W9.heap.size, 0, none⟩ (.slice a' (l0 ++ [s1]).length c')).setCell ⟨W9.heap.size, 1, none⟩ (.int .i64 x1)).setCell ⟨W9.heap.size, 2, none⟩ (.string s1))) rfl rfl rfl rfl (by kernel_rfl) (by rfl) (exec_store47 rfl rfl d0 d1 d2 f0 f1 f2) ⟨hSf, ?_⟩
                        refine wpAnyH_done (by kernel_rfl) ?_ _
                        have hOf := (hO19).only (three_only W19 W9.heap.size (.slice a' (l0 ++ [s1]).length c') (.int .i64 x1) (.string s1)) (fun k hk e => Lib.ownBlock_ne (hO19) hD19 (by decide) (by rw [hk, e]))
                        obtain ⟨a2', c2', hv2, hr2, -, -, -⟩ := hOf.shape
                        cases hv2
                        go_wp2
                        go_meet
                        exact ⟨W9.heap.size, a', c', rfl, hide ⟨HPT.out.1.below hSf, by rw [HN.out.1]; have := three_set (u := .slice a' (l0 ++ [s1]).length c') (v := .int .i64 x1) (t := .string s1) hD19; simpa [PAt] using this, hr2, HPT.out.2.2.trans (hSf.mono HPT.out.2.2.size)⟩⟩
                · have b21 : Below wj.drew.heap.size wj.drew (wj.drew.alloc (.cells #[.string s1] 9)) := (Below.refl _ _).alloc (Nat.le_refl _) _
                  have hg21 : (wj.drew.alloc (.cells #[.string s1] 9)).cell? ⟨wj.drew.heap.size, 0, none⟩ = some (.string s1) := by rw [cell_of_row _ _ 0 _ 9 (0, 0) (heap_alloc_new _ _)]; rfl
                  have hS21 : Below wj.heap.size wj (wj.drew.alloc (.cells #[.string s1] 9)) := (hHeld).trans (b21.mono (hHeld).size)
                  refine Goes.mk (i := 5) (d := 131) (OP := Op.buildSlice 23 1 #[(0, Operand.tmp 130)]) (T := 23) (v := .slice (some ⟨wj.drew.heap.size, 0, none⟩) 1 1) (w' := (wj.drew.alloc (.cells #[.string s1] 9))) rfl rfl rfl rfl (by rfl) (exec_slice1 rfl) hS21 ?_
                  try simp only [Act.put, List.setIfInBounds_toArray, List.set_cons_zero, List.set_cons_succ]
                  refine goes2 (i := 2) (j := 12) (by kernel_rfl) ?_ ?_
                  · obtain ⟨v22, W22, run22, hO22, b22⟩ := ap1 (wj.drew.alloc (.cells #[.string s1] 9)) hS21
                    have hS22 : Below wj.heap.size wj W22 := (hS21).trans (b22.mono (hS21).size)
                    have hgg22 := (b22.cell (World.block_lt_of_cell? _ _ hg21)).trans hg21
                    refine Goes.mk (i := 2) (d := 128) (OP := Op.call { callee := Callee.builtin Builtin.append, args := #[Operand.const (Value.slice none 0 0), Operand.tmp 127], argTypes := #[23, 23] }) (T := 23) (v := v22) (w' := W22) rfl rfl rfl rfl (by rfl) (exec_append rfl rfl run22) hS22 ?_
                    try simp only [Act.put, List.setIfInBounds_toArray, List.set_cons_zero, List.set_cons_succ]
                    refine goes2 (i := 6) (j := 12) (by kernel_rfl) ?_ ?_
                    · obtain ⟨v23, W23, run23, hO23, gw23⟩ := ap2 W22 v22 wj.drew.heap.size hS22 hO22 hgg22
                      obtain ⟨a', c', hv23, hr23, -, -, -⟩ := (hO23).shape
                      subst hv23
                      have hS23 : Below wj.heap.size wj W23 := (hS22).grown gw23 (hS22).size (fun k hk => (World.ownsRow.lt hO22 k hk).1)
                      refine Goes.mk (i := 6) (d := 132) (OP := Op.call { callee := Callee.builtin Builtin.append, args := #[Operand.tmp 128, Operand.tmp 131], argTypes := #[23, 23] }) (T := 23) (v := (.slice a' (l0 ++ [s1]).length c')) (w' := W23) rfl rfl rfl rfl (by rfl) (exec_append rfl rfl run23) hS23 ?_
                      try simp only [Act.put, List.setIfInBounds_toArray, List.set_cons_zero, List.set_cons_succ]
                      refine take_op (i := 11) (d := 137) (OP := Op.build 47 #[(0, Operand.tmp 132), (1, Operand.tmp 134), (2, Operand.tmp 136)]) (T := 47) (v := .agg #[.slice a' (l0 ++ [s1]).length c', .int .i64 x1, .string s1]) rfl rfl rfl rfl (by kernel_rfl) (by kernel_rfl) (by kernel_rfl) (fun _ _ _ h => h) (by rfl) ?hz24x hS23 ?rz24x
                      case hz24x => (intro w' hSw; exact exec_build47 rfl rfl rfl)
                      try simp only [Act.put, List.setIfInBounds_toArray, List.set_cons_zero, List.set_cons_succ]
                      refine goes1 (i := 12) (by kernel_rfl) ?_
                      · have b25 : Below W23.heap.size W23 (W23.alloc (.cells #[.slice none 0 0, .int .i64 0, .string ⟨#[]⟩] 47)) := (Below.refl _ _).alloc (Nat.le_refl _) _
                        have hD25 : (W23.alloc (.cells #[.slice none 0 0, .int .i64 0, .string ⟨#[]⟩] 47)).heap[W23.heap.size]? = some (.cells #[.slice none 0 0, .int .i64 0, .string ⟨#[]⟩] 47) := heap_alloc_new _ _
                        have hDl25 : wj.heap.size ≤ W23.heap.size := (hS23).size
                        have hS25 : Below wj.heap.size wj (W23.alloc (.cells #[.slice none 0 0, .int .i64 0, .string ⟨#[]⟩] 47)) := (hS23).trans (b25.mono (hS23).size)
                        have hO225 := (hO23).below b25
                        refine Goes.mk (i := 12) (d := 12) (OP := Op.alloc 47) (T := 0) (v := .pointer (some ⟨W23.heap.size, 0, none⟩)) (w' := (W23.alloc (.cells #[.slice none 0 0, .int .i64 0, .string ⟨#[]⟩] 47))) rfl rfl rfl rfl (by rfl) (exec_alloc47) hS25 ?_
                        try simp only [Act.put, List.setIfInBounds_toArray, List.set_cons_zero, List.set_cons_succ]
                        obtain ⟨d0, d1, d2, f0, f1, f2⟩ := blk3 hD25
                        have hSf : Below wj.heap.size wj ((((W23.alloc (.cells #[.slice none 0 0, .int .i64 0, .string ⟨#[]⟩] 47)).setCell ⟨W23.heap.size, 0, none⟩ (.slice a' (l0 ++ [s1]).length c')).setCell ⟨W23.heap.size, 1, none⟩ (.int .i64 x1)).setCell ⟨W23.heap.size, 2, none⟩ (.string s1)) := Below.only hS25 (three_only _ _ _ _ _) (hS25).size (fun j e => by subst e; exact hDl25)
                        refine skip_op (i := 13) (OP := Op.store 47 (Operand.tmp 12) (Operand.tmp 137)) (T := 0) (w' := ((((W23.alloc (.cells #[.slice none 0 0, .int .i64 0, .string ⟨#[]⟩] 47)).setCell ⟨W23.heap.size, 0, none⟩ (.slice a' (l0 ++ [s1]).length c')).setCell ⟨W23.heap.size, 1, none⟩ (.int .i64 x1)).setCell ⟨W23.heap.size, 2, none⟩ (.string s1))) rfl rfl rfl rfl (by kernel_rfl) (by rfl) (exec_store47 rfl rfl d0 d1 d2 f0 f1 f2) ⟨hSf, ?_⟩
                        refine wpAnyH_done (by kernel_rfl) ?_ _
                        have hOf := (hO225).only (three_only (W23.alloc (.cells #[.slice none 0 0, .int .i64 0, .string ⟨#[]⟩] 47)) W23.heap.size (.slice a' (l0 ++ [s1]).length c') (.int .i64 x1) (.string s1)) (fun k hk e => Lib.ownBlock_ne (hO225) hD25 (by decide) (by rw [hk, e]))
                        obtain ⟨a2', c2', hv2, hr2, -, -, -⟩ := hOf.shape
                        cases hv2
                        go_wp2
                        go_meet
                        exact ⟨W23.heap.size, a', c', rfl, hide ⟨HPT.out.1.below hSf, by rw [HN.out.1]; have := three_set (u := .slice a' (l0 ++ [s1]).length c') (v := .int .i64 x1) (t := .string s1) hD25; simpa [PAt] using this, hr2, HPT.out.2.2.trans (hSf.mono HPT.out.2.2.size)⟩⟩
                    · have b26 : Below W22.heap.size W22 (W22.alloc (.cells #[.slice none 0 0, .int .i64 0, .string ⟨#[]⟩] 47)) := (Below.refl _ _).alloc (Nat.le_refl _) _
                      have hD26 : (W22.alloc (.cells #[.slice none 0 0, .int .i64 0, .string ⟨#[]⟩] 47)).heap[W22.heap.size]? = some (.cells #[.slice none 0 0, .int .i64 0, .string ⟨#[]⟩] 47) := heap_alloc_new _ _
                      have hDl26 : wj.heap.size ≤ W22.heap.size := (hS22).size
                      have hS26 : Below wj.heap.size wj (W22.alloc (.cells #[.slice none 0 0, .int .i64 0, .string ⟨#[]⟩] 47)) := (hS22).trans (b26.mono (hS22).size)
                      have hO126 := (hO22).below b26
                      have hgg26 := (b26.cell (World.block_lt_of_cell? _ _ hgg22)).trans hgg22
                      refine Goes.mk (i := 12) (d := 12) (OP := Op.alloc 47) (T := 0) (v := .pointer (some ⟨W22.heap.size, 0, none⟩)) (w' := (W22.alloc (.cells #[.slice none 0 0, .int .i64 0, .string ⟨#[]⟩] 47))) rfl rfl rfl rfl (by rfl) (exec_alloc47) hS26 ?_
                      try simp only [Act.put, List.setIfInBounds_toArray, List.set_cons_zero, List.set_cons_succ]
                      refine goes1 (i := 6) (by kernel_rfl) ?_
                      · obtain ⟨v27, W27, run27, hO27, gw27⟩ := ap2 (W22.alloc (.cells #[.slice none 0 0, .int .i64 0, .string ⟨#[]⟩] 47)) v22 wj.drew.heap.size hS26 hO126 hgg26
                        obtain ⟨a', c', hv27, hr27, -, -, -⟩ := (hO27).shape
                        subst hv27
                        have hS27 : Below wj.heap.size wj W27 := (hS26).grown gw27 (hS26).size (fun k hk => (World.ownsRow.lt hO126 k hk).1)
                        have hD27 := (gw27.block _ (Array.getElem?_eq_some_iff.1 hD26).1 (fun e => Lib.ownBlock_ne hO126 hD26 (by decide) e.symm)).trans hD26
                        refine Goes.mk (i := 6) (d := 132) (OP := Op.call { callee := Callee.builtin Builtin.append, args := #[Operand.tmp 128, Operand.tmp 131], argTypes := #[23, 23] }) (T := 23) (v := (.slice a' (l0 ++ [s1]).length c')) (w' := W27) rfl rfl rfl rfl (by rfl) (exec_append rfl rfl run27) hS27 ?_
                        try simp only [Act.put, List.setIfInBounds_toArray, List.set_cons_zero, List.set_cons_succ]
                        refine take_op (i := 11) (d := 137) (OP := Op.build 47 #[(0, Operand.tmp 132), (1, Operand.tmp 134), (2, Operand.tmp 136)]) (T := 47) (v := .agg #[.slice a' (l0 ++ [s1]).length c', .int .i64 x1, .string s1]) rfl rfl rfl rfl (by kernel_rfl) (by kernel_rfl) (by kernel_rfl) (fun _ _ _ h => h) (by rfl) ?hz28x hS27 ?rz28x
                        case hz28x => (intro w' hSw; exact exec_build47 rfl rfl rfl)
                        try simp only [Act.put, List.setIfInBounds_toArray, List.set_cons_zero, List.set_cons_succ]
                        obtain ⟨d0, d1, d2, f0, f1, f2⟩ := blk3 hD27
                        have hSf : Below wj.heap.size wj (((W27.setCell ⟨W22.heap.size, 0, none⟩ (.slice a' (l0 ++ [s1]).length c')).setCell ⟨W22.heap.size, 1, none⟩ (.int .i64 x1)).setCell ⟨W22.heap.size, 2, none⟩ (.string s1)) := Below.only hS27 (three_only _ _ _ _ _) (hS27).size (fun j e => by subst e; exact hDl26)
                        refine skip_op (i := 13) (OP := Op.store 47 (Operand.tmp 12) (Operand.tmp 137)) (T := 0) (w' := (((W27.setCell ⟨W22.heap.size, 0, none⟩ (.slice a' (l0 ++ [s1]).length c')).setCell ⟨W22.heap.size, 1, none⟩ (.int .i64 x1)).setCell ⟨W22.heap.size, 2, none⟩ (.string s1))) rfl rfl rfl rfl (by kernel_rfl) (by rfl) (exec_store47 rfl rfl d0 d1 d2 f0 f1 f2) ⟨hSf, ?_⟩
                        refine wpAnyH_done (by kernel_rfl) ?_ _
                        have hOf := (hO27).only (three_only W27 W22.heap.size (.slice a' (l0 ++ [s1]).length c') (.int .i64 x1) (.string s1)) (fun k hk e => Lib.ownBlock_ne (hO27) hD27 (by decide) (by rw [hk, e]))
                        obtain ⟨a2', c2', hv2, hr2, -, -, -⟩ := hOf.shape
                        cases hv2
                        go_wp2
                        go_meet
                        exact ⟨W22.heap.size, a', c', rfl, hide ⟨HPT.out.1.below hSf, by rw [HN.out.1]; have := three_set (u := .slice a' (l0 ++ [s1]).length c') (v := .int .i64 x1) (t := .string s1) hD27; simpa [PAt] using this, hr2, HPT.out.2.2.trans (hSf.mono HPT.out.2.2.size)⟩⟩
                  · have b29 : Below (wj.drew.alloc (.cells #[.string s1] 9)).heap.size (wj.drew.alloc (.cells #[.string s1] 9)) ((wj.drew.alloc (.cells #[.string s1] 9)).alloc (.cells #[.slice none 0 0, .int .i64 0, .string ⟨#[]⟩] 47)) := (Below.refl _ _).alloc (Nat.le_refl _) _
                    have hD29 : ((wj.drew.alloc (.cells #[.string s1] 9)).alloc (.cells #[.slice none 0 0, .int .i64 0, .string ⟨#[]⟩] 47)).heap[(wj.drew.alloc (.cells #[.string s1] 9)).heap.size]? = some (.cells #[.slice none 0 0, .int .i64 0, .string ⟨#[]⟩] 47) := heap_alloc_new _ _
                    have hDl29 : wj.heap.size ≤ (wj.drew.alloc (.cells #[.string s1] 9)).heap.size := (hS21).size
                    have hS29 : Below wj.heap.size wj ((wj.drew.alloc (.cells #[.string s1] 9)).alloc (.cells #[.slice none 0 0, .int .i64 0, .string ⟨#[]⟩] 47)) := (hS21).trans (b29.mono (hS21).size)
                    have hgg29 := (b29.cell (World.block_lt_of_cell? _ _ hg21)).trans hg21
                    refine Goes.mk (i := 12) (d := 12) (OP := Op.alloc 47) (T := 0) (v := .pointer (some ⟨(wj.drew.alloc (.cells #[.string s1] 9)).heap.size, 0, none⟩)) (w' := ((wj.drew.alloc (.cells #[.string s1] 9)).alloc (.cells #[.slice none 0 0, .int .i64 0, .string ⟨#[]⟩] 47))) rfl rfl rfl rfl (by rfl) (exec_alloc47) hS29 ?_
                    try simp only [Act.put, List.setIfInBounds_toArray, List.set_cons_zero, List.set_cons_succ]
                    refine goes1 (i := 2) (by kernel_rfl) ?_
                    · obtain ⟨v30, W30, run30, hO30, b30⟩ := ap1 ((wj.drew.alloc (.cells #[.string s1] 9)).alloc (.cells #[.slice none 0 0, .int .i64 0, .string ⟨#[]⟩] 47)) hS29
                      have hS30 : Below wj.heap.size wj W30 := (hS29).trans (b30.mono (hS29).size)
                      have hgg30 := (b30.cell (World.block_lt_of_cell? _ _ hgg29)).trans hgg29
                      have hDD30 := (b30.block _ (Array.getElem?_eq_some_iff.1 hD29).1).trans hD29
                      refine Goes.mk (i := 2) (d := 128) (OP := Op.call { callee := Callee.builtin Builtin.append, args := #[Operand.const (Value.slice none 0 0), Operand.tmp 127], argTypes := #[23, 23] }) (T := 23) (v := v30) (w' := W30) rfl rfl rfl rfl (by rfl) (exec_append rfl rfl run30) hS30 ?_
                      try simp only [Act.put, List.setIfInBounds_toArray, List.set_cons_zero, List.set_cons_succ]
                      refine goes1 (i := 6) (by kernel_rfl) ?_
                      · obtain ⟨v31, W31, run31, hO31, gw31⟩ := ap2 W30 v30 wj.drew.heap.size hS30 hO30 hgg30
                        obtain ⟨a', c', hv31, hr31, -, -, -⟩ := (hO31).shape
                        subst hv31
                        have hS31 : Below wj.heap.size wj W31 := (hS30).grown gw31 (hS30).size (fun k hk => (World.ownsRow.lt hO30 k hk).1)
                        have hD31 := (gw31.block _ (Array.getElem?_eq_some_iff.1 hDD30).1 (fun e => Lib.ownBlock_ne hO30 hDD30 (by decide) e.symm)).trans hDD30
                        refine Goes.mk (i := 6) (d := 132) (OP := Op.call { callee := Callee.builtin Builtin.append, args := #[Operand.tmp 128, Operand.tmp 131], argTypes := #[23, 23] }) (T := 23) (v := (.slice a' (l0 ++ [s1]).length c')) (w' := W31) rfl rfl rfl rfl (by rfl) (exec_append rfl rfl run31) hS31 ?_
                        try simp only [Act.put, List.setIfInBounds_toArray, List.set_cons_zero, List.set_cons_succ]
                        refine take_op (i := 11) (d := 137) (OP := Op.build 47 #[(0, Operand.tmp 132), (1, Operand.tmp 134), (2, Operand.tmp 136)]) (T := 47) (v := .agg #[.slice a' (l0 ++ [s1]).length c', .int .i64 x1, .string s1]) rfl rfl rfl rfl (by kernel_rfl) (by kernel_rfl) (by kernel_rfl) (fun _ _ _ h => h) (by rfl) ?hz32x hS31 ?rz32x
                        case hz32x => (intro w' hSw; exact exec_build47 rfl rfl rfl)
                        try simp only [Act.put, List.setIfInBounds_toArray, List.set_cons_zero, List.set_cons_succ]
                        obtain ⟨d0, d1, d2, f0, f1, f2⟩ := blk3 hD31
                        have hSf : Below wj.heap.size wj (((W31.setCell ⟨(wj.drew.alloc (.cells #[.string s1] 9)).heap.size, 0, none⟩ (.slice a' (l0 ++ [s1]).length c')).setCell ⟨(wj.drew.alloc (.cells #[.string s1] 9)).heap.size, 1, none⟩ (.int .i64 x1)).setCell ⟨(wj.drew.alloc (.cells #[.string s1] 9)).heap.size, 2, none⟩ (.string s1)) := Below.only hS31 (three_only _ _ _ _ _) (hS31).size (fun j e => by subst e; exact hDl29)
                        refine skip_op (i := 13) (OP := Op.store 47 (Operand.tmp 12) (Operand.tmp 137)) (T := 0) (w' := (((W31.setCell ⟨(wj.drew.alloc (.cells #[.string s1] 9)).heap.size, 0, none⟩ (.slice a' (l0 ++ [s1]).length c')).setCell ⟨(wj.drew.alloc (.cells #[.string s1] 9)).heap.size, 1, none⟩ (.int .i64 x1)).setCell ⟨(wj.drew.alloc (.cells #[.string s1] 9)).heap.size, 2, none⟩ (.string s1))) rfl rfl rfl rfl (by kernel_rfl) (by rfl) (exec_store47 rfl rfl d0 d1 d2 f0 f1 f2) ⟨hSf, ?_⟩
                        refine wpAnyH_done (by kernel_rfl) ?_ _
                        have hOf := (hO31).only (three_only W31 (wj.drew.alloc (.cells #[.string s1] 9)).heap.size (.slice a' (l0 ++ [s1]).length c') (.int .i64 x1) (.string s1)) (fun k hk e => Lib.ownBlock_ne (hO31) hD31 (by decide) (by rw [hk, e]))
                        obtain ⟨a2', c2', hv2, hr2, -, -, -⟩ := hOf.shape
                        cases hv2
                        go_wp2
                        go_meet
                        exact ⟨(wj.drew.alloc (.cells #[.string s1] 9)).heap.size, a', c', rfl, hide ⟨HPT.out.1.below hSf, by rw [HN.out.1]; have := three_set (u := .slice a' (l0 ++ [s1]).length c') (v := .int .i64 x1) (t := .string s1) hD31; simpa [PAt] using this, hr2, HPT.out.2.2.trans (hSf.mono HPT.out.2.2.size)⟩⟩
                · have b33 : Below wj.drew.heap.size wj.drew (wj.drew.alloc (.cells #[.slice none 0 0, .int .i64 0, .string ⟨#[]⟩] 47)) := (Below.refl _ _).alloc (Nat.le_refl _) _
                  have hD33 : (wj.drew.alloc (.cells #[.slice none 0 0, .int .i64 0, .string ⟨#[]⟩] 47)).heap[wj.drew.heap.size]? = some (.cells #[.slice none 0 0, .int .i64 0, .string ⟨#[]⟩] 47) := heap_alloc_new _ _
                  have hDl33 : wj.heap.size ≤ wj.drew.heap.size := (hHeld).size
                  have hS33 : Below wj.heap.size wj (wj.drew.alloc (.cells #[.slice none 0 0, .int .i64 0, .string ⟨#[]⟩] 47)) := (hHeld).trans (b33.mono (hHeld).size)
                  refine Goes.mk (i := 12) (d := 12) (OP := Op.alloc 47) (T := 0) (v := .pointer (some ⟨wj.drew.heap.size, 0, none⟩)) (w' := (wj.drew.alloc (.cells #[.slice none 0 0, .int .i64 0, .string ⟨#[]⟩] 47))) rfl rfl rfl rfl (by rfl) (exec_alloc47) hS33 ?_
                  try simp only [Act.put, List.setIfInBounds_toArray, List.set_cons_zero, List.set_cons_succ]
                  refine goes2 (i := 2) (j := 5) (by kernel_rfl) ?_ ?_
                  · obtain ⟨v34, W34, run34, hO34, b34⟩ := ap1 (wj.drew.alloc (.cells #[.slice none 0 0, .int .i64 0, .string ⟨#[]⟩] 47)) hS33
                    have hS34 : Below wj.heap.size wj W34 := (hS33).trans (b34.mono (hS33).size)
                    have hDD34 := (b34.block _ (Array.getElem?_eq_some_iff.1 hD33).1).trans hD33
                    refine Goes.mk (i := 2) (d := 128) (OP := Op.call { callee := Callee.builtin Builtin.append, args := #[Operand.const (Value.slice none 0 0), Operand.tmp 127], argTypes := #[23, 23] }) (T := 23) (v := v34) (w' := W34) rfl rfl rfl rfl (by rfl) (exec_append rfl rfl run34) hS34 ?_
                    try simp only [Act.put, List.setIfInBounds_toArray, List.set_cons_zero, List.set_cons_succ]
                    refine goes1 (i := 5) (by kernel_rfl) ?_
                    · have b35 : Below W34.heap.size W34 (W34.alloc (.cells #[.string s1] 9)) := (Below.refl _ _).alloc (Nat.le_refl _) _
                      have hg35 : (W34.alloc (.cells #[.string s1] 9)).cell? ⟨W34.heap.size, 0, none⟩ = some (.string s1) := by rw [cell_of_row _ _ 0 _ 9 (0, 0) (heap_alloc_new _ _)]; rfl
                      have hS35 : Below wj.heap.size wj (W34.alloc (.cells #[.string s1] 9)) := (hS34).trans (b35.mono (hS34).size)
                      have hO135 := (hO34).below b35
                      have hDD35 := (b35.block _ (Array.getElem?_eq_some_iff.1 hDD34).1).trans hDD34
                      refine Goes.mk (i := 5) (d := 131) (OP := Op.buildSlice 23 1 #[(0, Operand.tmp 130)]) (T := 23) (v := .slice (some ⟨W34.heap.size, 0, none⟩) 1 1) (w' := (W34.alloc (.cells #[.string s1] 9))) rfl rfl rfl rfl (by rfl) (exec_slice1 rfl) hS35 ?_
                      try simp only [Act.put, List.setIfInBounds_toArray, List.set_cons_zero, List.set_cons_succ]
                      refine goes1 (i := 6) (by kernel_rfl) ?_
                      · obtain ⟨v36, W36, run36, hO36, gw36⟩ := ap2 (W34.alloc (.cells #[.string s1] 9)) v34 W34.heap.size hS35 hO135 hg35
                        obtain ⟨a', c', hv36, hr36, -, -, -⟩ := (hO36).shape
                        subst hv36
                        have hS36 : Below wj.heap.size wj W36 := (hS35).grown gw36 (hS35).size (fun k hk => (World.ownsRow.lt hO135 k hk).1)
                        have hD36 := (gw36.block _ (Array.getElem?_eq_some_iff.1 hDD35).1 (fun e => Lib.ownBlock_ne hO135 hDD35 (by decide) e.symm)).trans hDD35
                        refine Goes.mk (i := 6) (d := 132) (OP := Op.call { callee := Callee.builtin Builtin.append, args := #[Operand.tmp 128, Operand.tmp 131], argTypes := #[23, 23] }) (T := 23) (v := (.slice a' (l0 ++ [s1]).length c')) (w' := W36) rfl rfl rfl rfl (by rfl) (exec_append rfl rfl run36) hS36 ?_
                        try simp only [Act.put, List.setIfInBounds_toArray, List.set_cons_zero, List.set_cons_succ]
                        refine take_op (i := 11) (d := 137) (OP := Op.build 47 #[(0, Operand.tmp 132), (1, Operand.tmp 134), (2, Operand.tmp 136)]) (T := 47) (v := .agg #[.slice a' (l0 ++ [s1]).length c', .int .i64 x1, .string s1]) rfl rfl rfl rfl (by kernel_rfl) (by kernel_rfl) (by kernel_rfl) (fun _ _ _ h => h) (by rfl) ?hz37x hS36 ?rz37x
                        case hz37x => (intro w' hSw; exact exec_build47 rfl rfl rfl)
                        try simp only [Act.put, List.setIfInBounds_toArray, List.set_cons_zero, List.set_cons_succ]
                        obtain ⟨d0, d1, d2, f0, f1, f2⟩ := blk3 hD36
                        have hSf : Below wj.heap.size wj (((W36.setCell ⟨wj.drew.heap.size, 0, none⟩ (.slice a' (l0 ++ [s1]).length c')).setCell ⟨wj.drew.heap.size, 1, none⟩ (.int .i64 x1)).setCell ⟨wj.drew.heap.size, 2, none⟩ (.string s1)) := Below.only hS36 (three_only _ _ _ _ _) (hS36).size (fun j e => by subst e; exact hDl33)
                        refine skip_op (i := 13) (OP := Op.store 47 (Operand.tmp 12) (Operand.tmp 137)) (T := 0) (w' := (((W36.setCell ⟨wj.drew.heap.size, 0, none⟩ (.slice a' (l0 ++ [s1]).length c')).setCell ⟨wj.drew.heap.size, 1, none⟩ (.int .i64 x1)).setCell ⟨wj.drew.heap.size, 2, none⟩ (.string s1))) rfl rfl rfl rfl (by kernel_rfl) (by rfl) (exec_store47 rfl rfl d0 d1 d2 f0 f1 f2) ⟨hSf, ?_⟩
                        refine wpAnyH_done (by kernel_rfl) ?_ _
                        have hOf := (hO36).only (three_only W36 wj.drew.heap.size (.slice a' (l0 ++ [s1]).length c') (.int .i64 x1) (.string s1)) (fun k hk e => Lib.ownBlock_ne (hO36) hD36 (by decide) (by rw [hk, e]))
                        obtain ⟨a2', c2', hv2, hr2, -, -, -⟩ := hOf.shape
                        cases hv2
                        go_wp2
                        go_meet
                        exact ⟨wj.drew.heap.size, a', c', rfl, hide ⟨HPT.out.1.below hSf, by rw [HN.out.1]; have := three_set (u := .slice a' (l0 ++ [s1]).length c') (v := .int .i64 x1) (t := .string s1) hD36; simpa [PAt] using this, hr2, HPT.out.2.2.trans (hSf.mono HPT.out.2.2.size)⟩⟩
                  · have b38 : Below (wj.drew.alloc (.cells #[.slice none 0 0, .int .i64 0, .string ⟨#[]⟩] 47)).heap.size (wj.drew.alloc (.cells #[.slice none 0 0, .int .i64 0, .string ⟨#[]⟩] 47)) ((wj.drew.alloc (.cells #[.slice none 0 0, .int .i64 0, .string ⟨#[]⟩] 47)).alloc (.cells #[.string s1] 9)) := (Below.refl _ _).alloc (Nat.le_refl _) _
                    have hg38 : ((wj.drew.alloc (.cells #[.slice none 0 0, .int .i64 0, .string ⟨#[]⟩] 47)).alloc (.cells #[.string s1] 9)).cell? ⟨(wj.drew.alloc (.cells #[.slice none 0 0, .int .i64 0, .string ⟨#[]⟩] 47)).heap.size, 0, none⟩ = some (.string s1) := by rw [cell_of_row _ _ 0 _ 9 (0, 0) (heap_alloc_new _ _)]; rfl
                    have hS38 : Below wj.heap.size wj ((wj.drew.alloc (.cells #[.slice none 0 0, .int .i64 0, .string ⟨#[]⟩] 47)).alloc (.cells #[.string s1] 9)) := (hS33).trans (b38.mono (hS33).size)
                    have hDD38 := (b38.block _ (Array.getElem?_eq_some_iff.1 hD33).1).trans hD33
                    refine Goes.mk (i := 5) (d := 131) (OP := Op.buildSlice 23 1 #[(0, Operand.tmp 130)]) (T := 23) (v := .slice (some ⟨(wj.drew.alloc (.cells #[.slice none 0 0, .int .i64 0, .string ⟨#[]⟩] 47)).heap.size, 0, none⟩) 1 1) (w' := ((wj.drew.alloc (.cells #[.slice none 0 0, .int .i64 0, .string ⟨#[]⟩] 47)).alloc (.cells #[.string s1] 9))) rfl rfl rfl rfl (by rfl) (exec_slice1 rfl) hS38 ?_
                    try simp only [Act.put, List.setIfInBounds_toArray, List.set_cons_zero, List.set_cons_succ]
                    refine goes1 (i := 2) (by kernel_rfl) ?_
                    · obtain ⟨v39, W39, run39, hO39, b39⟩ := ap1 ((wj.drew.alloc (.cells #[.slice none 0 0, .int .i64 0, .string ⟨#[]⟩] 47)).alloc (.cells #[.string s1] 9)) hS38
                      have hS39 : Below wj.heap.size wj W39 := (hS38).trans (b39.mono (hS38).size)
                      have hgg39 := (b39.cell (World.block_lt_of_cell? _ _ hg38)).trans hg38
                      have hDD39 := (b39.block _ (Array.getElem?_eq_some_iff.1 hDD38).1).trans hDD38
                      refine Goes.mk (i := 2) (d := 128) (OP := Op.call { callee := Callee.builtin Builtin.append, args := #[Operand.const (Value.slice none 0 0), Operand.tmp 127], argTypes := #[23, 23] }) (T := 23) (v := v39) (w' := W39) rfl rfl rfl rfl (by rfl) (exec_append rfl rfl run39) hS39 ?_
                      try simp only [Act.put, List.setIfInBounds_toArray, List.set_cons_zero, List.set_cons_succ]
                      refine goes1 (i := 6) (by kernel_rfl) ?_
                      · obtain ⟨v40, W40, run40, hO40, gw40⟩ := ap2 W39 v39 (wj.drew.alloc (.cells #[.slice none 0 0, .int .i64 0, .string ⟨#[]⟩] 47)).heap.size hS39 hO39 hgg39
                        obtain ⟨a', c', hv40, hr40, -, -, -⟩ := (hO40).shape
                        subst hv40
                        have hS40 : Below wj.heap.size wj W40 := (hS39).grown gw40 (hS39).size (fun k hk => (World.ownsRow.lt hO39 k hk).1)
                        have hD40 := (gw40.block _ (Array.getElem?_eq_some_iff.1 hDD39).1 (fun e => Lib.ownBlock_ne hO39 hDD39 (by decide) e.symm)).trans hDD39
                        refine Goes.mk (i := 6) (d := 132) (OP := Op.call { callee := Callee.builtin Builtin.append, args := #[Operand.tmp 128, Operand.tmp 131], argTypes := #[23, 23] }) (T := 23) (v := (.slice a' (l0 ++ [s1]).length c')) (w' := W40) rfl rfl rfl rfl (by rfl) (exec_append rfl rfl run40) hS40 ?_
                        try simp only [Act.put, List.setIfInBounds_toArray, List.set_cons_zero, List.set_cons_succ]
                        refine take_op (i := 11) (d := 137) (OP := Op.build 47 #[(0, Operand.tmp 132), (1, Operand.tmp 134), (2, Operand.tmp 136)]) (T := 47) (v := .agg #[.slice a' (l0 ++ [s1]).length c', .int .i64 x1, .string s1]) rfl rfl rfl rfl (by kernel_rfl) (by kernel_rfl) (by kernel_rfl) (fun _ _ _ h => h) (by rfl) ?hz41x hS40 ?rz41x
                        case hz41x => (intro w' hSw; exact exec_build47 rfl rfl rfl)
                        try simp only [Act.put, List.setIfInBounds_toArray, List.set_cons_zero, List.set_cons_succ]
                        obtain ⟨d0, d1, d2, f0, f1, f2⟩ := blk3 hD40
                        have hSf : Below wj.heap.size wj (((W40.setCell ⟨wj.drew.heap.size, 0, none⟩ (.slice a' (l0 ++ [s1]).length c')).setCell ⟨wj.drew.heap.size, 1, none⟩ (.int .i64 x1)).setCell ⟨wj.drew.heap.size, 2, none⟩ (.string s1)) := Below.only hS40 (three_only _ _ _ _ _) (hS40).size (fun j e => by subst e; exact hDl33)
                        refine skip_op (i := 13) (OP := Op.store 47 (Operand.tmp 12) (Operand.tmp 137)) (T := 0) (w' := (((W40.setCell ⟨wj.drew.heap.size, 0, none⟩ (.slice a' (l0 ++ [s1]).length c')).setCell ⟨wj.drew.heap.size, 1, none⟩ (.int .i64 x1)).setCell ⟨wj.drew.heap.size, 2, none⟩ (.string s1))) rfl rfl rfl rfl (by kernel_rfl) (by rfl) (exec_store47 rfl rfl d0 d1 d2 f0 f1 f2) ⟨hSf, ?_⟩
                        refine wpAnyH_done (by kernel_rfl) ?_ _
                        have hOf := (hO40).only (three_only W40 wj.drew.heap.size (.slice a' (l0 ++ [s1]).length c') (.int .i64 x1) (.string s1)) (fun k hk e => Lib.ownBlock_ne (hO40) hD40 (by decide) (by rw [hk, e]))
                        obtain ⟨a2', c2', hv2, hr2, -, -, -⟩ := hOf.shape
                        cases hv2
                        go_wp2
                        go_meet
                        exact ⟨wj.drew.heap.size, a', c', rfl, hide ⟨HPT.out.1.below hSf, by rw [HN.out.1]; have := three_set (u := .slice a' (l0 ++ [s1]).length c') (v := .int .i64 x1) (t := .string s1) hD40; simpa [PAt] using this, hr2, HPT.out.2.2.trans (hSf.mono HPT.out.2.2.size)⟩⟩
            case rest =>
              obtain ⟨D, a', c', rfl, HF⟩ := hcut
              obtain ⟨f0, f1, f2⟩ := HF.out.1.cells
              obtain ⟨g0, g1, g2⟩ := HF.out.2.1.cells
              have kin : Calls Tryd.prog 33 #[plv a0 N0 c0 x0 s0, plv a' (N0 + 1) c' x1 s1] wc fun e w' => e = .returned (.int .i64 (-1)) ∧ Below wc.heap.size wc w' := by
                have h := cmpPlace_any (c := c0) (d := c') x0 x1 s0 s1 (HR.out.1.below HF.out.2.2.2) HF.out.2.2.1 (by omega)
                rw [cl_inner, List.length_append, ← HN.out.1] at h
                exact h
              go_wp2_with (go_at_call 33; refine kin.mono ?_; rintro e wz ⟨rfl, bz⟩; dsimp only)
              go_ret
              exact ⟨rfl, HF.out.2.2.2.trans (bz.mono HF.out.2.2.2.size)⟩
end Go.Proofs.YtcpigbojebjlaaaDoor
