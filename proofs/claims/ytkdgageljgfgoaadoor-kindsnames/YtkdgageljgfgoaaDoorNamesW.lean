/-
  kinds: KindsNames' walk.
-/
import Derived.Test.YtkdgageljgfgoaaDoorKnownB
import Derived.Test.YtkdgageljgfgoaaDoorWords2
import Derived.LoopN
namespace Go.Proofs.YtkdgageljgfgoaaDoor
open Go.RowKit Go.Shelf
set_option linter.unusedSimpArgs false
attribute [local go_sem] Oper.semAt_some

theorem words5 (w : World) : Calls Tryd.prog 5 #[] w fun e w' => e = .returned (.slice (some ⟨w.heap.size, 0, none⟩) 7 7) ∧ w' = w.alloc (.cells ((⟨#[]⟩ :: kindWs).map Value.string).toArray 9) := by
  go_enter Tryd.func5, Tryd.ntmps5
  go_wp2
  go_ret
  exact ⟨rfl, rfl⟩
theorem words5_at {i : Nat} {s : ByteArray} (h : (⟨#[]⟩ :: kindWs)[i]? = some s) (W : World) : Calls Tryd.prog 5 #[] W fun e w' => e = .returned (.slice (some ⟨W.heap.size, 0, none⟩) 7 7) ∧ w'.cell? ⟨W.heap.size, i, none⟩ = some (.string s) ∧ Below W.heap.size W w' := by
  refine (words5 W).mono ?_
  rintro e w' ⟨h1, h2⟩
  have r := heap_alloc_new W (.cells ((⟨#[]⟩ :: kindWs).map Value.string).toArray 9)
  rw [← h2] at r
  refine ⟨h1, ?_, by rw [h2]; exact (Below.refl _ W).alloc (Nat.le_refl _) _⟩
  rw [cell_of_row _ _ i _ 9 (0, 0) r]
  have : ((⟨#[]⟩ :: kindWs).map Value.string)[i]? = some (.string s) := by rw [List.getElem?_map, h]; rfl
  simpa using this
theorem fn_nil23 (f : Fn) (x y : Array Value) (w : World) : (binOp .eql 23 (.func f x y) .nilFunc).run Tryd.prog w = .ok (.bool false) w := by kernel_rfl
/-- What stands between rounds: the count. -/
def NI (wA : World) (Nb k : Nat) (W : World) : Prop := Only (fun j => j = Nb) wA W ∧ W.heap[Nb]? = some (.cells #[.int .i64 ((k : Nat) : Int)] 3 (0, 0))
theorem NI.other {wA : World} {Nb k : Nat} {W W' : World} (h : NI wA Nb k W) (hN : Nb < wA.heap.size) (ho : Only (fun j => j = wA.heap.size + 1) W W') : NI wA Nb k W' :=
  ⟨h.1.trans ho (fun j hj e => by have e' : j = wA.heap.size + 1 := e; omega), (ho.block _ (Array.getElem?_eq_some_iff.1 h.2).1 (by omega)).trans h.2⟩
theorem count_at {ws : List ByteArray} {c xn : Nat} {xs : ByteArray} (h : (countL ws)[c]? = some (xn, xs)) : xn = c + 1 ∧ ws[c]? = some xs := by
  unfold countL at h
  rw [List.getElem?_mapIdx] at h
  cases hw : ws[c]? with
  | none => rw [hw] at h; simp at h
  | some s => rw [hw] at h; simp at h; exact ⟨h.1.symm, by rw [h.2]⟩
set_option maxHeartbeats 8000000 in
set_option maxRecDepth 100000 in
theorem names_walk {w : World} (hT : Tabs w) : Calls Tryd.prog 3 #[] w fun e w' => e = .returned (.bool true) ∧ Below w.heap.size w w' := by
  have hk := allK (w.alloc (.cells #[.bool false] 4))
  have HK : Hid (∀ W, Below w.heap.size w W → Calls Tryd.prog 8 #[] W fun e w' => e = .returned (.bool true) ∧ Below W.heap.size W w') := hide (fun W hW => known_any (hT.below hW))
  have h6 : ∀ W, Calls Tryd.prog 6 #[.int .i64 6] W fun e w' => e = .returned (.tuple #[.agg #[.int .i64 0, .int .i64 0, .slice none 0 0], .int .i64 2]) ∧ Below W.heap.size W w' := fun W => empty_any 6 W
  have h0 : ∀ W, Calls Tryd.prog 6 #[.int .i64 0] W fun e w' => e = .returned (.tuple #[.agg #[.int .i64 0, .int .i64 0, .slice none 0 0], .int .i64 2]) ∧ Below W.heap.size W w' := fun W => empty_any 0 W
  have hnum := fun W => num_any 2 W
  have rr0 := heap_alloc_new w (.cells #[.bool false] 4)
  have bb0 : Below w.heap.size w (w.alloc (.cells #[.bool false] 4)) := (Below.refl _ w).alloc (Nat.le_refl _) _
  have HR0 := hide (And.intro rr0 bb0)
  obtain ⟨Rs, hRs⟩ : ∃ q, q = w.heap.size := ⟨_, rfl⟩
  have HRs := hide hRs
  clear rr0 bb0 hT
  refine calls_marks Tryd.func3 rfl ?_
  simp only [Tryd.ntmps3, List.size_toArray, List.length_cons, List.length_nil, Nat.reduceAdd, Nat.reduceSub, Array.replicate_succ, Array.replicate_zero, List.push_toArray, List.append_toArray, List.nil_append, List.cons_append]
  have hfn := fun f x y W => fn_nil23 f x y W
  go_upto_region 4 with (go_at_call 4; refine hk.mono ?_; rintro e w1 ⟨L, G, rfl, hw, hL, hG, b1⟩; have H1 := hide (And.intro hw (And.intro hL (And.intro hG b1))); clear hw hL hG b1; dsimp only)
  clear hk hfn
  rw [← hRs]
  clear hRs
  have HFA : Hid (∀ W, Below w1.heap.size w1 W → WAt W L G 36 kindWs ∧ W.heap[Rs]? = some (.cells #[.bool false] 4 (0, 0)) ∧ Below w.heap.size w W) := hide (fun W hW => by
    obtain ⟨hw, hL, hG, b1⟩ := H1.out
    have r1 := (b1.block _ (Array.getElem?_eq_some_iff.1 HR0.out.1).1).trans HR0.out.1
    rw [HRs.out]
    have bw := HR0.out.2.trans (b1.mono HR0.out.2.size)
    exact ⟨hw.below hW, (hW.block _ (Array.getElem?_eq_some_iff.1 r1).1).trans r1, bw.trans (hW.mono bw.size)⟩)
  have HSZ : Hid (Rs < w1.heap.size ∧ w.heap.size ≤ Rs ∧ ∀ j, KW L G j → j < w1.heap.size) := hide (by
    obtain ⟨f1, f2, f3⟩ := HFA.out w1 (Below.refl _ _)
    exact ⟨(Array.getElem?_eq_some_iff.1 f2).1, by have := HRs.out; omega, f1.lt⟩)
  clear H1 HR0
  have HB0 : Hid (Below w1.heap.size w1 w1) := hide (Below.refl _ _)
  go_wp2
  refine wp_loop_rounds 3 ?_
  rw [rounds_succ]
  go_wp2
  obtain ⟨wA0, hwA⟩ : ∃ q, q = (w1.alloc (.cells #[.int .i64 0] 3)).alloc (.cells #[.int .i64 0] 3) := ⟨_, rfl⟩
  obtain ⟨g0, g1, bA⟩ := new2b w1 (.cells #[.int .i64 0] 3) (.cells #[.int .i64 0] 3)
  rw [← hwA] at g0 g1 bA ⊢
  have hsA : wA0.heap.size = w1.heap.size + 2 := by rw [hwA]; simp
  obtain ⟨Tb0, hTb⟩ : ∃ q, q = w1.heap.size := ⟨_, rfl⟩
  obtain ⟨Nb0, hNb⟩ : ∃ q, q = w1.heap.size + 1 := ⟨_, rfl⟩
  rw [← hNb] at g1 ⊢
  rw [← hTb] at g0 ⊢
  have bCA : Below w1.heap.size w1 wA0 := HB0.out.trans (bA.mono HB0.out.size)
  have hBC : w1.heap.size ≤ w1.heap.size := HB0.out.size
  obtain ⟨f1, f2, f3⟩ := HFA.out wA0 bCA
  have hit := iterK f1 (by decide)
  have hI0 : NI wA0 Nb0 0 wA0 := ⟨Only.refl _ _, g1⟩
  have HTB0 : Hid (wA0.cell? ⟨Tb0, 0, none⟩ = some (.int .i64 0)) := hide ((cell_of_row _ _ 0 _ 3 (0, 0) g0).trans rfl)
  have HSA0 : Hid (Tb0 < wA0.heap.size ∧ Nb0 < wA0.heap.size ∧ Tb0 ≠ Nb0 ∧ w1.heap.size ≤ Tb0 ∧ w1.heap.size ≤ Nb0 ∧ w1.heap.size ≤ Tb0 ∧ w1.heap.size ≤ Nb0 ∧ w1.heap.size ≤ wA0.heap.size ∧ w1.heap.size ≤ w1.heap.size) := hide (by omega)
  have HG0 := hide (And.intro bCA bA)
  clear g0 g1 bA hsA hTb hNb bCA hBC f1 f2 f3 hwA
  refine range_itb (Q := _) 2 22 entersK_92 _ (countL kindWs) encW _ hit rfl (fun _ _ => rfl) (fun j hj => by have := HSZ.out.2.2 j hj; have := HSA0.out; omega) (fun j => j = Nb0) (fun j e hj => by have := HSZ.out.2.2 j hj; have := HSA0.out; omega) (fun j e => by have := HSA0.out; omega)
    (NI wA0 Nb0) (NI wA0 Nb0 3) (fun W => ∃ k : Nat, NI wA0 Nb0 k W) (fun k W W' hi ho => NI.other hi HSA0.out.2.1 ho) (fun W W' hi ho => NI.other hi HSA0.out.2.1 ho) hI0 ?hround0 (fun _ _ h => h) (fun W h => ⟨_, h⟩) (fun W h => ⟨_, h⟩) ?hdone0
  case hround0 =>
    as_aux_lemma =>
      clear HK h6 h0 hnum HFA HSZ
      rintro c ⟨xn, xs⟩ W hx hi hSame hsz
      clear hit hSame
      obtain ⟨hxn, hws⟩ := count_at hx
      have hc6 : c < 6 := (List.getElem?_eq_some_iff.1 hws).1
      have hwi : (⟨#[]⟩ :: kindWs)[xn]? = some xs := by rw [hxn]; exact hws
      have HWS := hide hwi
      have hadd : (c : Int) + 1 = (xn : Int) := by omega
      have hadd2 : IntKind.i64.wrap (xn : Int) = (xn : Int) := by rw [IntKind.wrap_i64]; omega
      have i0 : (xn : Int) < 7 := by omega
      have i1 : ¬ (6 : Int) < (xn : Int) := by omega
      have i2 : decide ((6 : Int) < (xn : Int)) = false := by simpa using i1
      have i3 : decide (6 < xn) = false := by simp; omega
      have HIC := hide (And.intro hxn hc6)
      dsimp only [encW]
      clear hx hws hwi hxn
      gi_wp2
      refine ⟨Only.refl _ _, fun W2 ho2 => ?_⟩
      have hi2 := hi.other HSA0.out.2.1 ho2
      have nc : W2.cell? ⟨Nb0, 0, none⟩ = some (.int .i64 (c : Int)) := (cell_of_row _ _ 0 _ 3 (0, 0) hi2.2).trans rfl
      have nf : W2.frozen? ⟨Nb0, 0, none⟩ = false := frozen_of_row _ _ 0 _ 3 hi2.2
      obtain ⟨s3, o3⟩ := set_one (i := 0) (.int .i64 (xn : Int)) hi2.2
      obtain ⟨W3, hW3⟩ : ∃ W3, W3 = W2.setCell ⟨Nb0, 0, none⟩ (.int .i64 (xn : Int)) := ⟨_, rfl⟩
      rw [← hW3] at s3 o3
      have hi3 : NI wA0 Nb0 xn W3 := ⟨hi2.1.next o3, by simpa using s3⟩
      have tc := hi3.1.cell HTB0.out (by have := HSA0.out; simp only; omega)
      have n3 : W3.cell? ⟨Nb0, 0, none⟩ = some (.int .i64 (xn : Int)) := (cell_of_row _ _ 0 _ 3 (0, 0) hi3.2).trans rfl
      have HI3 := hide (And.intro o3 hi3)
      have HTC := hide tc
      clear hi hi2 s3 o3 hi3 ho2 hsz tc
      gi_wp2
      rw [← hW3]
      clear hW3 nc nf
      have qd : W3.drew.cell? ⟨Nb0, 0, none⟩ = some (.int .i64 (xn : Int)) ∧ Hid (Below W3.heap.size W3 W3.drew) := ⟨n3, hide (drew_below W3)⟩
      clear n3
      refine region_in (S := fun w' => w'.cell? ⟨Nb0, 0, none⟩ = some (.int .i64 (xn : Int)) ∧ Hid (Below W3.heap.size W3 w')) (by kernel_rfl) (by kernel_rfl) (by intro _ _ h; exact h) qd (fun hHeld => ?_)
      clear qd
      refine take_op (i := 0) (d := 22) (OP := Op.move (Operand.tmp 4)) (T := 25) (v := ?vzz1) rfl rfl rfl rfl (by kernel_rfl) (by kernel_rfl) (by kernel_rfl) (fun _ _ _ h => h) (by rfl) ?hzz1 hHeld ?rzz1
      case hzz1 => (intro w' hSw; (try dsimp only at hSw); go_simp <;> with_reducible rfl)
      try simp only [Act.put, List.setIfInBounds_toArray, List.set_cons_zero, List.set_cons_succ]
      refine take_op (i := 1) (d := 23) (OP := Op.load 3 (Operand.tmp 3)) (T := 3) (v := ?vzz2) rfl rfl rfl rfl (by kernel_rfl) (by kernel_rfl) (by kernel_rfl) (fun _ _ _ h => h) (by rfl) ?hzz2 hHeld ?rzz2
      case hzz2 => (intro w' hSw; (try dsimp only at hSw); go_simp <;> with_reducible rfl)
      try simp only [Act.put, List.setIfInBounds_toArray, List.set_cons_zero, List.set_cons_succ]
      refine take_op (i := 2) (d := 24) (OP := Op.binOp BinOp.neq 3 (Operand.tmp 22) (Operand.tmp 23) 3) (T := 4) (v := ?vzz3) rfl rfl rfl rfl (by kernel_rfl) (by kernel_rfl) (by kernel_rfl) (fun _ _ _ h => h) (by rfl) ?hzz3 hHeld ?rzz3
      case hzz3 => (intro w' hSw; (try dsimp only at hSw); go_simp <;> with_reducible rfl)
      try simp only [Act.put, List.setIfInBounds_toArray, List.set_cons_zero, List.set_cons_succ]
      refine take_op (i := 3) (d := 25) (OP := Op.move (Operand.tmp 24)) (T := 4) (v := ?vzz4) rfl rfl rfl rfl (by kernel_rfl) (by kernel_rfl) (by kernel_rfl) (fun _ _ _ h => h) (by rfl) ?hzz4 hHeld ?rzz4
      case hzz4 => (intro w' hSw; (try dsimp only at hSw); go_simp <;> with_reducible rfl)
      try simp only [Act.put, List.setIfInBounds_toArray, List.set_cons_zero, List.set_cons_succ]
      refine take_op (i := 4) (d := 26) (OP := Op.load 3 (Operand.tmp 3)) (T := 3) (v := ?vzz5) rfl rfl rfl rfl (by kernel_rfl) (by kernel_rfl) (by kernel_rfl) (fun _ _ _ h => h) (by rfl) ?hzz5 hHeld ?rzz5
      case hzz5 => (intro w' hSw; (try dsimp only at hSw); go_simp <;> with_reducible rfl)
      try simp only [Act.put, List.setIfInBounds_toArray, List.set_cons_zero, List.set_cons_succ]
      refine take_op (i := 5) (d := 27) (OP := Op.binOp BinOp.gtr 3 (Operand.tmp 26) (Operand.const (Value.int IntKind.i64 6)) 3) (T := 4) (v := ?vzz6) rfl rfl rfl rfl (by kernel_rfl) (by kernel_rfl) (by kernel_rfl) (fun _ _ _ h => h) (by rfl) ?hzz6 hHeld ?rzz6
      case hzz6 => (intro w' hSw; (try dsimp only at hSw); go_simp <;> with_reducible rfl)
      try simp only [Act.put, List.setIfInBounds_toArray, List.set_cons_zero, List.set_cons_succ]
      refine take_op (i := 6) (d := 28) (OP := Op.pick (Operand.tmp 25) (Operand.const (Value.bool true)) (Operand.tmp 27)) (T := 4) (v := ?vzz7) rfl rfl rfl rfl (by kernel_rfl) (by kernel_rfl) (by kernel_rfl) (fun _ _ _ h => h) (by rfl) ?hzz7 hHeld ?rzz7
      case hzz7 => (intro w' hSw; (try dsimp only at hSw); go_simp <;> with_reducible rfl)
      try simp only [Act.put, List.setIfInBounds_toArray, List.set_cons_zero, List.set_cons_succ]
      refine take_op (i := 7) (d := 29) (OP := Op.move (Operand.tmp 28)) (T := 4) (v := ?vzz8) rfl rfl rfl rfl (by kernel_rfl) (by kernel_rfl) (by kernel_rfl) (fun _ _ _ h => h) (by rfl) ?hzz8 hHeld ?rzz8
      case hzz8 => (intro w' hSw; (try dsimp only at hSw); go_simp <;> with_reducible rfl)
      try simp only [Act.put, List.setIfInBounds_toArray, List.set_cons_zero, List.set_cons_succ]
      refine take_op (i := 8) (d := 30) (OP := Op.move (Operand.tmp 5)) (T := 9) (v := ?vzz9) rfl rfl rfl rfl (by kernel_rfl) (by kernel_rfl) (by kernel_rfl) (fun _ _ _ h => h) (by rfl) ?hzz9 hHeld ?rzz9
      case hzz9 => (intro w' hSw; (try dsimp only at hSw); go_simp <;> with_reducible rfl)
      try simp only [Act.put, List.setIfInBounds_toArray, List.set_cons_zero, List.set_cons_succ]
      refine take_op (i := 10) (d := 32) (OP := Op.load 3 (Operand.tmp 3)) (T := 3) (v := ?vzz10) rfl rfl rfl rfl (by kernel_rfl) (by kernel_rfl) (by kernel_rfl) (fun _ _ _ h => h) (by rfl) ?hzz10 hHeld ?rzz10
      case hzz10 => (intro w' hSw; (try dsimp only at hSw); go_simp <;> with_reducible rfl)
      try simp only [Act.put, List.setIfInBounds_toArray, List.set_cons_zero, List.set_cons_succ]
      refine call_op (i := 9) (d := 31) (OP := Op.call { callee := Callee.value (Operand.func 5), args := #[], argTypes := #[] }) (T := 26) (f := 5) (args := #[]) rfl rfl rfl rfl (by kernel_rfl) (by rfl) (by go_simp) ?_
      refine (words5_at HWS.out _).mono ?_
      rintro e w5 ⟨rfl, r5, b5⟩
      obtain ⟨B5, hB5⟩ : ∃ B, B = W3.drew.heap.size := ⟨_, rfl⟩
      rw [← hB5] at r5 ⊢
      have q5 := cell_stays hHeld.1 b5
      have HB5 := hide (hHeld.2.out.trans (b5.mono hHeld.2.out.size))
      refine ⟨_, rfl, ⟨q5, HB5⟩, ?_⟩
      refine wpAnyH_mono (S' := fun w' => w'.cell? ⟨Nb0, 0, none⟩ = some (.int .i64 (xn : Int)) ∧ Hid (Below W3.heap.size W3 w') ∧ w'.cell? ⟨B5, xn, none⟩ = some (.string xs)) (fun _ h => ⟨h.1, h.2.1⟩) ?_
      replace hHeld : w5.cell? ⟨Nb0, 0, none⟩ = some (.int .i64 (xn : Int)) ∧ Hid (Below W3.heap.size W3 w5) ∧ w5.cell? ⟨B5, xn, none⟩ = some (.string xs) := ⟨q5, HB5, r5⟩
      clear q5 r5 b5 hB5
      try simp only [Act.put, List.setIfInBounds_toArray, List.set_cons_zero, List.set_cons_succ]
      refine take_op (i := 11) (d := 33) (OP := Op.indexAddr 26 (Operand.tmp 31) (Operand.tmp 32)) (T := 0) (v := ?vzz11) rfl rfl rfl rfl (by kernel_rfl) (by kernel_rfl) (by kernel_rfl) (fun _ _ _ h => h) (by rfl) ?hzz11 hHeld ?rzz11
      case hzz11 => (intro w' hSw; (try dsimp only at hSw); go_simp <;> with_reducible rfl)
      try simp only [Act.put, List.setIfInBounds_toArray, List.set_cons_zero, List.set_cons_succ]
      refine take_op (i := 12) (d := 34) (OP := Op.load 9 (Operand.tmp 33)) (T := 9) (v := ?vzz12) rfl rfl rfl rfl (by kernel_rfl) (by kernel_rfl) (by kernel_rfl) (fun _ _ _ h => h) (by rfl) ?hzz12 hHeld ?rzz12
      case hzz12 => (intro w' hSw; (try dsimp only at hSw); go_simp <;> with_reducible rfl)
      try simp only [Act.put, List.setIfInBounds_toArray, List.set_cons_zero, List.set_cons_succ]
      refine take_op (i := 13) (d := 35) (OP := Op.binOp BinOp.neq 9 (Operand.tmp 30) (Operand.tmp 34) 9) (T := 4) (v := ?vzz13) rfl rfl rfl rfl (by kernel_rfl) (by kernel_rfl) (by kernel_rfl) (fun _ _ _ h => h) (by rfl) ?hzz13 hHeld ?rzz13
      case hzz13 => (intro w' hSw; (try dsimp only at hSw); go_simp <;> with_reducible rfl)
      try simp only [Act.put, List.setIfInBounds_toArray, List.set_cons_zero, List.set_cons_succ]
      refine take_op (i := 14) (d := 36) (OP := Op.pick (Operand.tmp 29) (Operand.const (Value.bool true)) (Operand.tmp 35)) (T := 4) (v := ?vzz14) rfl rfl rfl rfl (by kernel_rfl) (by kernel_rfl) (by kernel_rfl) (fun _ _ _ h => h) (by rfl) ?hzz14 hHeld ?rzz14
      case hzz14 => (intro w' hSw; (try dsimp only at hSw); go_simp <;> with_reducible rfl)
      try simp only [Act.put, List.setIfInBounds_toArray, List.set_cons_zero, List.set_cons_succ]
      refine wpAnyH_done (by kernel_rfl) ?_ _
      obtain ⟨n5, HB5, -⟩ := hHeld
      have t5 := cell_stays HTC.out HB5.out
      have HF := hide (And.intro ((HI3.out.1).next (below_only HB5.out)) (And.intro (HI3.out.2.1.next (below_only HB5.out)) ((HB5.out.block _ (Array.getElem?_eq_some_iff.1 HI3.out.2.2).1).trans HI3.out.2.2)))
      clear HB5 HTC HI3
      by_cases h3 : xn = 3
      · have d1 : ((xn : Int) == 3) = true := by rw [h3]; rfl
        have H3 := hide h3
        clear h3
        gi_wp2
        exact ⟨HF.out.1, rfl, by rw [← H3.out]; exact HF.out.2⟩
      · have d1 : ((xn : Int) == 3) = false := by simp; omega
        clear h3
        gi_wp2
        exact ⟨HF.out.1, by rw [← HIC.out.1]; exact HF.out.2⟩
  case hdone0 =>
    intro wv0 hJ hlsv hK0
    obtain ⟨j, hi⟩ := hJ
    have tc := hi.1.cell HTB0.out (by have := HSA0.out; simp only; omega)
    have HB1 : Hid (Below w1.heap.size w1 wv0) := hide (Below.only HG0.out.1 hi.1 HG0.out.1.size (fun j d => by have := HSA0.out; omega))
    have HV := hide (And.intro hK0 hlsv)
    clear hit hI0 hi hK0 hlsv
    go_wp2
    rw [rounds_succ]
    go_wp2
    obtain ⟨wA1, hwA⟩ : ∃ q, q = (wv0.alloc (.cells #[.int .i64 1] 3)).alloc (.cells #[.int .i64 0] 3) := ⟨_, rfl⟩
    obtain ⟨g0, g1, bA⟩ := new2b wv0 (.cells #[.int .i64 1] 3) (.cells #[.int .i64 0] 3)
    rw [← hwA] at g0 g1 bA ⊢
    have hsA : wA1.heap.size = wv0.heap.size + 2 := by rw [hwA]; simp
    obtain ⟨Tb1, hTb⟩ : ∃ q, q = wv0.heap.size := ⟨_, rfl⟩
    obtain ⟨Nb1, hNb⟩ : ∃ q, q = wv0.heap.size + 1 := ⟨_, rfl⟩
    rw [← hNb] at g1 ⊢
    rw [← hTb] at g0 ⊢
    have bCA : Below w1.heap.size w1 wA1 := HB1.out.trans (bA.mono HB1.out.size)
    have hBC : w1.heap.size ≤ wv0.heap.size := HB1.out.size
    obtain ⟨f1, f2, f3⟩ := HFA.out wA1 bCA
    have hit := iterK f1 (by decide)
    have hI0 : NI wA1 Nb1 0 wA1 := ⟨Only.refl _ _, g1⟩
    have HTB1 : Hid (wA1.cell? ⟨Tb1, 0, none⟩ = some (.int .i64 1)) := hide ((cell_of_row _ _ 0 _ 3 (0, 0) g0).trans rfl)
    have HSA1 : Hid (Tb1 < wA1.heap.size ∧ Nb1 < wA1.heap.size ∧ Tb1 ≠ Nb1 ∧ w1.heap.size ≤ Tb1 ∧ w1.heap.size ≤ Nb1 ∧ wv0.heap.size ≤ Tb1 ∧ wv0.heap.size ≤ Nb1 ∧ wv0.heap.size ≤ wA1.heap.size ∧ w1.heap.size ≤ wv0.heap.size) := hide (by omega)
    have HG1 := hide (And.intro bCA bA)
    clear g0 g1 bA hsA hTb hNb bCA hBC f1 f2 f3 hwA
    refine range_itb (Q := _) 2 22 entersK_92 _ (countL kindWs) encW _ hit rfl (fun _ _ => rfl) (fun j hj => by have := HSZ.out.2.2 j hj; have := HSA1.out; omega) (fun j => j = Nb1) (fun j e hj => by have := HSZ.out.2.2 j hj; have := HSA1.out; omega) (fun j e => by have := HSA1.out; omega)
      (NI wA1 Nb1) (fun _ => False) (NI wA1 Nb1 6) (fun k W W' hi ho => NI.other hi HSA1.out.2.1 ho) (fun W W' hi ho => hi) hI0 ?hround1 (fun _ _ h => h) (fun W h => h) (fun W h => h.elim) ?hdone1
    case hround1 =>
      as_aux_lemma =>
        clear HK h6 h0 hnum HFA HSZ
        rintro c ⟨xn, xs⟩ W hx hi hSame hsz
        clear hit hSame
        obtain ⟨hxn, hws⟩ := count_at hx
        have hc6 : c < 6 := (List.getElem?_eq_some_iff.1 hws).1
        have hwi : (⟨#[]⟩ :: kindWs)[xn]? = some xs := by rw [hxn]; exact hws
        have HWS := hide hwi
        have hadd : (c : Int) + 1 = (xn : Int) := by omega
        have hadd2 : IntKind.i64.wrap (xn : Int) = (xn : Int) := by rw [IntKind.wrap_i64]; omega
        have i0 : (xn : Int) < 7 := by omega
        have i1 : ¬ (6 : Int) < (xn : Int) := by omega
        have i2 : decide ((6 : Int) < (xn : Int)) = false := by simpa using i1
        have i3 : decide (6 < xn) = false := by simp; omega
        have HIC := hide (And.intro hxn hc6)
        dsimp only [encW]
        clear hx hws hwi hxn
        gi_wp2
        refine ⟨Only.refl _ _, fun W2 ho2 => ?_⟩
        have hi2 := hi.other HSA1.out.2.1 ho2
        have nc : W2.cell? ⟨Nb1, 0, none⟩ = some (.int .i64 (c : Int)) := (cell_of_row _ _ 0 _ 3 (0, 0) hi2.2).trans rfl
        have nf : W2.frozen? ⟨Nb1, 0, none⟩ = false := frozen_of_row _ _ 0 _ 3 hi2.2
        obtain ⟨s3, o3⟩ := set_one (i := 0) (.int .i64 (xn : Int)) hi2.2
        obtain ⟨W3, hW3⟩ : ∃ W3, W3 = W2.setCell ⟨Nb1, 0, none⟩ (.int .i64 (xn : Int)) := ⟨_, rfl⟩
        rw [← hW3] at s3 o3
        have hi3 : NI wA1 Nb1 xn W3 := ⟨hi2.1.next o3, by simpa using s3⟩
        have tc := hi3.1.cell HTB1.out (by have := HSA1.out; simp only; omega)
        have n3 : W3.cell? ⟨Nb1, 0, none⟩ = some (.int .i64 (xn : Int)) := (cell_of_row _ _ 0 _ 3 (0, 0) hi3.2).trans rfl
        have HI3 := hide (And.intro o3 hi3)
        have HTC := hide tc
        clear hi hi2 s3 o3 hi3 ho2 hsz tc
        gi_wp2
        rw [← hW3]
        clear hW3 nc nf
        have qd : W3.drew.cell? ⟨Nb1, 0, none⟩ = some (.int .i64 (xn : Int)) ∧ Hid (Below W3.heap.size W3 W3.drew) := ⟨n3, hide (drew_below W3)⟩
        clear n3
        refine region_in (S := fun w' => w'.cell? ⟨Nb1, 0, none⟩ = some (.int .i64 (xn : Int)) ∧ Hid (Below W3.heap.size W3 w')) (by kernel_rfl) (by kernel_rfl) (by intro _ _ h; exact h) qd (fun hHeld => ?_)
        clear qd
        refine take_op (i := 0) (d := 22) (OP := Op.move (Operand.tmp 4)) (T := 25) (v := ?vzz15) rfl rfl rfl rfl (by kernel_rfl) (by kernel_rfl) (by kernel_rfl) (fun _ _ _ h => h) (by rfl) ?hzz15 hHeld ?rzz15
        case hzz15 => (intro w' hSw; (try dsimp only at hSw); go_simp <;> with_reducible rfl)
        try simp only [Act.put, List.setIfInBounds_toArray, List.set_cons_zero, List.set_cons_succ]
        refine take_op (i := 1) (d := 23) (OP := Op.load 3 (Operand.tmp 3)) (T := 3) (v := ?vzz16) rfl rfl rfl rfl (by kernel_rfl) (by kernel_rfl) (by kernel_rfl) (fun _ _ _ h => h) (by rfl) ?hzz16 hHeld ?rzz16
        case hzz16 => (intro w' hSw; (try dsimp only at hSw); go_simp <;> with_reducible rfl)
        try simp only [Act.put, List.setIfInBounds_toArray, List.set_cons_zero, List.set_cons_succ]
        refine take_op (i := 2) (d := 24) (OP := Op.binOp BinOp.neq 3 (Operand.tmp 22) (Operand.tmp 23) 3) (T := 4) (v := ?vzz17) rfl rfl rfl rfl (by kernel_rfl) (by kernel_rfl) (by kernel_rfl) (fun _ _ _ h => h) (by rfl) ?hzz17 hHeld ?rzz17
        case hzz17 => (intro w' hSw; (try dsimp only at hSw); go_simp <;> with_reducible rfl)
        try simp only [Act.put, List.setIfInBounds_toArray, List.set_cons_zero, List.set_cons_succ]
        refine take_op (i := 3) (d := 25) (OP := Op.move (Operand.tmp 24)) (T := 4) (v := ?vzz18) rfl rfl rfl rfl (by kernel_rfl) (by kernel_rfl) (by kernel_rfl) (fun _ _ _ h => h) (by rfl) ?hzz18 hHeld ?rzz18
        case hzz18 => (intro w' hSw; (try dsimp only at hSw); go_simp <;> with_reducible rfl)
        try simp only [Act.put, List.setIfInBounds_toArray, List.set_cons_zero, List.set_cons_succ]
        refine take_op (i := 4) (d := 26) (OP := Op.load 3 (Operand.tmp 3)) (T := 3) (v := ?vzz19) rfl rfl rfl rfl (by kernel_rfl) (by kernel_rfl) (by kernel_rfl) (fun _ _ _ h => h) (by rfl) ?hzz19 hHeld ?rzz19
        case hzz19 => (intro w' hSw; (try dsimp only at hSw); go_simp <;> with_reducible rfl)
        try simp only [Act.put, List.setIfInBounds_toArray, List.set_cons_zero, List.set_cons_succ]
        refine take_op (i := 5) (d := 27) (OP := Op.binOp BinOp.gtr 3 (Operand.tmp 26) (Operand.const (Value.int IntKind.i64 6)) 3) (T := 4) (v := ?vzz20) rfl rfl rfl rfl (by kernel_rfl) (by kernel_rfl) (by kernel_rfl) (fun _ _ _ h => h) (by rfl) ?hzz20 hHeld ?rzz20
        case hzz20 => (intro w' hSw; (try dsimp only at hSw); go_simp <;> with_reducible rfl)
        try simp only [Act.put, List.setIfInBounds_toArray, List.set_cons_zero, List.set_cons_succ]
        refine take_op (i := 6) (d := 28) (OP := Op.pick (Operand.tmp 25) (Operand.const (Value.bool true)) (Operand.tmp 27)) (T := 4) (v := ?vzz21) rfl rfl rfl rfl (by kernel_rfl) (by kernel_rfl) (by kernel_rfl) (fun _ _ _ h => h) (by rfl) ?hzz21 hHeld ?rzz21
        case hzz21 => (intro w' hSw; (try dsimp only at hSw); go_simp <;> with_reducible rfl)
        try simp only [Act.put, List.setIfInBounds_toArray, List.set_cons_zero, List.set_cons_succ]
        refine take_op (i := 7) (d := 29) (OP := Op.move (Operand.tmp 28)) (T := 4) (v := ?vzz22) rfl rfl rfl rfl (by kernel_rfl) (by kernel_rfl) (by kernel_rfl) (fun _ _ _ h => h) (by rfl) ?hzz22 hHeld ?rzz22
        case hzz22 => (intro w' hSw; (try dsimp only at hSw); go_simp <;> with_reducible rfl)
        try simp only [Act.put, List.setIfInBounds_toArray, List.set_cons_zero, List.set_cons_succ]
        refine take_op (i := 8) (d := 30) (OP := Op.move (Operand.tmp 5)) (T := 9) (v := ?vzz23) rfl rfl rfl rfl (by kernel_rfl) (by kernel_rfl) (by kernel_rfl) (fun _ _ _ h => h) (by rfl) ?hzz23 hHeld ?rzz23
        case hzz23 => (intro w' hSw; (try dsimp only at hSw); go_simp <;> with_reducible rfl)
        try simp only [Act.put, List.setIfInBounds_toArray, List.set_cons_zero, List.set_cons_succ]
        refine take_op (i := 10) (d := 32) (OP := Op.load 3 (Operand.tmp 3)) (T := 3) (v := ?vzz24) rfl rfl rfl rfl (by kernel_rfl) (by kernel_rfl) (by kernel_rfl) (fun _ _ _ h => h) (by rfl) ?hzz24 hHeld ?rzz24
        case hzz24 => (intro w' hSw; (try dsimp only at hSw); go_simp <;> with_reducible rfl)
        try simp only [Act.put, List.setIfInBounds_toArray, List.set_cons_zero, List.set_cons_succ]
        refine call_op (i := 9) (d := 31) (OP := Op.call { callee := Callee.value (Operand.func 5), args := #[], argTypes := #[] }) (T := 26) (f := 5) (args := #[]) rfl rfl rfl rfl (by kernel_rfl) (by rfl) (by go_simp) ?_
        refine (words5_at HWS.out _).mono ?_
        rintro e w5 ⟨rfl, r5, b5⟩
        obtain ⟨B5, hB5⟩ : ∃ B, B = W3.drew.heap.size := ⟨_, rfl⟩
        rw [← hB5] at r5 ⊢
        have q5 := cell_stays hHeld.1 b5
        have HB5 := hide (hHeld.2.out.trans (b5.mono hHeld.2.out.size))
        refine ⟨_, rfl, ⟨q5, HB5⟩, ?_⟩
        refine wpAnyH_mono (S' := fun w' => w'.cell? ⟨Nb1, 0, none⟩ = some (.int .i64 (xn : Int)) ∧ Hid (Below W3.heap.size W3 w') ∧ w'.cell? ⟨B5, xn, none⟩ = some (.string xs)) (fun _ h => ⟨h.1, h.2.1⟩) ?_
        replace hHeld : w5.cell? ⟨Nb1, 0, none⟩ = some (.int .i64 (xn : Int)) ∧ Hid (Below W3.heap.size W3 w5) ∧ w5.cell? ⟨B5, xn, none⟩ = some (.string xs) := ⟨q5, HB5, r5⟩
        clear q5 r5 b5 hB5
        try simp only [Act.put, List.setIfInBounds_toArray, List.set_cons_zero, List.set_cons_succ]
        refine take_op (i := 11) (d := 33) (OP := Op.indexAddr 26 (Operand.tmp 31) (Operand.tmp 32)) (T := 0) (v := ?vzz25) rfl rfl rfl rfl (by kernel_rfl) (by kernel_rfl) (by kernel_rfl) (fun _ _ _ h => h) (by rfl) ?hzz25 hHeld ?rzz25
        case hzz25 => (intro w' hSw; (try dsimp only at hSw); go_simp <;> with_reducible rfl)
        try simp only [Act.put, List.setIfInBounds_toArray, List.set_cons_zero, List.set_cons_succ]
        refine take_op (i := 12) (d := 34) (OP := Op.load 9 (Operand.tmp 33)) (T := 9) (v := ?vzz26) rfl rfl rfl rfl (by kernel_rfl) (by kernel_rfl) (by kernel_rfl) (fun _ _ _ h => h) (by rfl) ?hzz26 hHeld ?rzz26
        case hzz26 => (intro w' hSw; (try dsimp only at hSw); go_simp <;> with_reducible rfl)
        try simp only [Act.put, List.setIfInBounds_toArray, List.set_cons_zero, List.set_cons_succ]
        refine take_op (i := 13) (d := 35) (OP := Op.binOp BinOp.neq 9 (Operand.tmp 30) (Operand.tmp 34) 9) (T := 4) (v := ?vzz27) rfl rfl rfl rfl (by kernel_rfl) (by kernel_rfl) (by kernel_rfl) (fun _ _ _ h => h) (by rfl) ?hzz27 hHeld ?rzz27
        case hzz27 => (intro w' hSw; (try dsimp only at hSw); go_simp <;> with_reducible rfl)
        try simp only [Act.put, List.setIfInBounds_toArray, List.set_cons_zero, List.set_cons_succ]
        refine take_op (i := 14) (d := 36) (OP := Op.pick (Operand.tmp 29) (Operand.const (Value.bool true)) (Operand.tmp 35)) (T := 4) (v := ?vzz28) rfl rfl rfl rfl (by kernel_rfl) (by kernel_rfl) (by kernel_rfl) (fun _ _ _ h => h) (by rfl) ?hzz28 hHeld ?rzz28
        case hzz28 => (intro w' hSw; (try dsimp only at hSw); go_simp <;> with_reducible rfl)
        try simp only [Act.put, List.setIfInBounds_toArray, List.set_cons_zero, List.set_cons_succ]
        refine wpAnyH_done (by kernel_rfl) ?_ _
        obtain ⟨n5, HB5, -⟩ := hHeld
        have t5 := cell_stays HTC.out HB5.out
        have HF := hide (And.intro ((HI3.out.1).next (below_only HB5.out)) (And.intro (HI3.out.2.1.next (below_only HB5.out)) ((HB5.out.block _ (Array.getElem?_eq_some_iff.1 HI3.out.2.2).1).trans HI3.out.2.2)))
        clear HB5 HTC HI3
        gi_wp2
        exact ⟨HF.out.1, by rw [← HIC.out.1]; exact HF.out.2⟩
    case hdone1 =>
      intro wv1 hJ hlsv hK0
      have nc : wv1.cell? ⟨Nb1, 0, none⟩ = some (.int .i64 6) := (cell_of_row _ _ 0 _ 3 (0, 0) hJ.2).trans rfl
      have tc := hJ.1.cell HTB1.out (by have := HSA1.out; simp only; omega)
      have bA1 := HG1.out.2
      have bC1 : Below w1.heap.size w1 wv1 := Below.only HG1.out.1 hJ.1 HG1.out.1.size (fun j d => by have := HSA1.out; omega)
      have hK00 : wv1.heap[wA0.heap.size]? = some (.deferred (some [])) := (hJ.1.block _ (Nat.lt_of_lt_of_le HV.out.2 bA1.size) (fun d => by have := HSA1.out; have := HV.out.2; omega)).trans ((bA1.block _ HV.out.2).trans HV.out.1)
      have HFI : Hid (∀ W, Below wv1.heap.size wv1 W → W.cell? ⟨Rs, 0, none⟩ = some (.bool false) ∧ W.frozen? ⟨Rs, 0, none⟩ = false ∧ W.heap[Rs]? = some (.cells #[.bool false] 4 (0, 0)) ∧ W.heap[wA0.heap.size]? = some (.deferred (some [])) ∧ W.heap[wA1.heap.size]? = some (.deferred (some [])) ∧ Below w.heap.size w W) := hide (fun W hW => by
        obtain ⟨-, f4, f9⟩ := HFA.out W (bC1.trans (hW.mono bC1.size))
        exact ⟨(cell_of_row _ _ 0 _ 4 (0, 0) f4).trans rfl, frozen_of_row _ _ 0 _ 4 f4, f4, (hW.block _ (Array.getElem?_eq_some_iff.1 hK00).1).trans hK00, (hW.block _ hlsv).trans hK0, f9⟩)
      have HLT := hide (And.intro hlsv HV.out.2)
      clear hit hI0 hJ hK0 hK00 hlsv bA1 bC1
      go_wp2
      rw [rounds_succ]
      obtain ⟨w4, hw4⟩ : ∃ q, q = wv1.alloc (.cells #[.int .i64 2] 3) := ⟨_, rfl⟩
      have b4 : Below wv1.heap.size wv1 w4 := by rw [hw4]; exact (Below.refl _ wv1).alloc (Nat.le_refl _) _
      have c4 : w4.cell? ⟨wv1.heap.size, 0, none⟩ = some (.int .i64 2) := by rw [hw4]; exact (cell_of_row _ _ 0 _ 3 (0, 0) (heap_alloc_new wv1 _)).trans rfl
      rw [← hw4]
      have H4 := hide b4
      clear b4 hw4 tc nc
      go_upto_region 19 with fail
      go_upto_region 20 with (go_at_call 6; refine (h6 _).mono ?_; rintro e w6 ⟨rfl, b6⟩; have H6 := hide (H4.out.trans (b6.mono H4.out.size)); clear b6; dsimp only)
      obtain ⟨x6, hx6⟩ : ∃ q, q = w6.alloc (.cells #[.int .i64 0, .int .i64 0, .slice none 0 0] 30) := ⟨_, rfl⟩
      have H6b : Hid (Below wv1.heap.size wv1 x6) := hide (by rw [hx6]; exact H6.out.trans (((Below.refl _ w6).alloc (Nat.le_refl _) _).mono H6.out.size))
      rw [← hx6]
      clear hx6
      go_upto_region 21 with (go_at_call 6; refine (h0 _).mono ?_; rintro e w7 ⟨rfl, b7⟩; have H7 := hide (H6b.out.trans (b7.mono H6b.out.size)); clear b7; dsimp only)
      obtain ⟨x7, hx7⟩ : ∃ q, q = w7.alloc (.cells #[.int .i64 0, .int .i64 0, .slice none 0 0] 30) := ⟨_, rfl⟩
      have H7b : Hid (Below wv1.heap.size wv1 x7) := hide (by rw [hx7]; exact H7.out.trans (((Below.refl _ w7).alloc (Nat.le_refl _) _).mono H7.out.size))
      rw [← hx7]
      clear hx7
      have hkn := HK.out x7 (HFI.out x7 H7b.out).2.2.2.2.2
      go_wp2_with (first
        | (go_at_call 7; refine (hnum _).mono ?_; rintro e w8 ⟨rfl, hw8⟩; replace hw8 := hw8.symm; subst hw8)
        | (go_at_call 8; refine hkn.mono ?_; rintro e w9 ⟨rfl, bk⟩; obtain ⟨cr, fr, HE'⟩ := HFI.out w9 (H7b.out.trans (bk.mono H7b.out.size)); have HE := hide HE'; clear bk HE'; dsimp only))
      obtain ⟨rr9, k0, k1, bw9⟩ := HE.out
      have hz := HSZ.out
      have hA0 := HSA0.out
      have hA1 := HSA1.out
      have hv := HV.out.2
      obtain ⟨s5, o5⟩ := set_one (i := 0) (.bool true) rr9
      have x1 := (o5.block _ (Array.getElem?_eq_some_iff.1 k1).1 (by omega)).trans k1
      have x0 := (o5.block _ (Array.getElem?_eq_some_iff.1 k0).1 (by omega)).trans k0
      have hcell : (w9.setCell ⟨Rs, 0, none⟩ (.bool true)).cell? ⟨Rs, 0, none⟩ = some (.bool true) := (cell_of_row _ _ 0 _ 4 (0, 0) s5).trans rfl
      have o1 := only_putObj (w9.setCell ⟨Rs, 0, none⟩ (.bool true)) wA1.heap.size (.deferred none)
      have x0' := (o1.block wA0.heap.size (Array.getElem?_eq_some_iff.1 x0).1 (by omega)).trans x0
      have o2 := only_putObj ((w9.setCell ⟨Rs, 0, none⟩ (.bool true)).putObj wA1.heap.size (.deferred none)) wA0.heap.size (.deferred none)
      have p5 := Below.only bw9 o5 bw9.size (fun j d => by omega)
      have p6 := Below.only p5 o1 p5.size (fun j d => by omega)
      have p7 := Below.only p6 o2 p6.size (fun j d => by omega)
      exact leave_mark (fn := Tryd.f3) x1 (leave_mark x0' (leave_cell Rs (x := true) rfl rfl (o2.cell (o1.cell hcell (by simp only; omega)) (by simp only; omega)) ⟨rfl, p7⟩))
end Go.Proofs.YtkdgageljgfgoaaDoor
