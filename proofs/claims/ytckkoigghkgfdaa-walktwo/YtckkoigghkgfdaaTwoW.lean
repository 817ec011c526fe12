/-
  WalkTwo: THE WALK.
-/
import Derived.Test.YtckkoigghkgfdaaTwoT
import Derived.Test.YtckkoigghkgfdaaOrdC
import Derived.Test.YtckkoigghkgfdaaUnionW
import Derived.Test.YtckkoigghkgfdaaUnW
namespace Go.Proofs.Ytckkoigghkgfdaa
open Go.RowKit Go.Shelf
set_option linter.unusedSimpArgs false
attribute [local go_sem] Oper.semAt_some

theorem ret_leave {fn : Func} {R : Ending → World → Prop} {a : Act} {w : World} (h : LeavesInM Fence.wide 6 Try.prog fn a.tmps R a.defers .returning w) : noPanic (bodyPostM Fence.wide 6 Try.prog fn R) .ret a w := h
/-- The key that was handed over last. -/
def lastK (xs : List Ch) : Nat → ByteArray
  | 0 => ⟨#[]⟩
  | c + 1 => match xs[c]? with
    | some x => x.1
    | none => ⟨#[]⟩
/-- What stands between the rounds of a turn: the boxes of the count and of the last key alone are written. -/
structure TI (wA : World) (N L : Nat) (xs : List Ch) (c : Nat) (W : World) : Prop where
  only : Only (fun j => j = N ∨ j = L) wA W
  n : W.heap[N]? = some (.cells #[.int .i64 (c : Int)] 3 (0, 0))
  last : W.heap[L]? = some (.cells #[.string (lastK xs c)] 9 (0, 0))
theorem TI.below {wA W W' : World} {N L c : Nat} {xs : List Ch} (h : TI wA N L xs c W) (hb : Below W.heap.size W W') : TI wA N L xs c W' :=
  ⟨h.only.next (below_only hb), (hb.block _ (Array.getElem?_eq_some_iff.1 h.n).1).trans h.n, (hb.block _ (Array.getElem?_eq_some_iff.1 h.last).1).trans h.last⟩
theorem TI.other {wA W W' : World} {N L c : Nat} {xs : List Ch} (h : TI wA N L xs c W) (hN : N < wA.heap.size) (hL : L < wA.heap.size) (ho : Only (fun j => j = wA.heap.size + 1) W W') : TI wA N L xs c W' :=
  ⟨h.only.trans ho (fun j hj d => by omega), (ho.block _ (Array.getElem?_eq_some_iff.1 h.n).1 (by omega)).trans h.n, (ho.block _ (Array.getElem?_eq_some_iff.1 h.last).1 (by omega)).trans h.last⟩
theorem TI.step {wA W Z : World} {N L c : Nat} {xs : List Ch} {x : Ch} (h : TI wA N L xs c W) (hNL : N ≠ L) (hx : xs[c]? = some x) (hb : Below W.heap.size W Z) :
    (Z.cell? ⟨L, 0, none⟩ = some (.string (lastK xs c)) ∧ Z.frozen? ⟨L, 0, none⟩ = false ∧ (Z.setCell ⟨L, 0, none⟩ (.string x.1)).cell? ⟨N, 0, none⟩ = some (.int .i64 (c : Int)) ∧ (Z.setCell ⟨L, 0, none⟩ (.string x.1)).frozen? ⟨N, 0, none⟩ = false) ∧
    ((Z.setCell ⟨L, 0, none⟩ (.string x.1)).setCell ⟨N, 0, none⟩ (.int .i64 ((c : Int) + 1))).cell? ⟨N, 0, none⟩ = some (.int .i64 ((c : Int) + 1)) ∧
    Only (fun j => j = N ∨ j = L) W ((Z.setCell ⟨L, 0, none⟩ (.string x.1)).setCell ⟨N, 0, none⟩ (.int .i64 ((c : Int) + 1))) ∧ TI wA N L xs (c + 1) ((Z.setCell ⟨L, 0, none⟩ (.string x.1)).setCell ⟨N, 0, none⟩ (.int .i64 ((c : Int) + 1))) := by
  have h1 := h.below hb
  obtain ⟨sL, oL⟩ := set_one (i := 0) (.string x.1) h1.last
  have n1 := (oL.block _ (Array.getElem?_eq_some_iff.1 h1.n).1 hNL).trans h1.n
  obtain ⟨sN, oN⟩ := set_one (i := 0) (.int .i64 ((c : Int) + 1)) n1
  have l2 := (oN.block _ (Array.getElem?_eq_some_iff.1 sL).1 (fun e => hNL e.symm)).trans sL
  have hO : Only (fun j => j = N ∨ j = L) W ((Z.setCell ⟨L, 0, none⟩ (.string x.1)).setCell ⟨N, 0, none⟩ (.int .i64 ((c : Int) + 1))) := ((below_only hb).next (oL.mono (fun _ _ e => .inr e))).next (oN.mono (fun _ _ e => .inl e))
  refine ⟨⟨(cell_of_row _ _ 0 _ 9 (0, 0) h1.last).trans rfl, frozen_of_row _ _ 0 _ 9 h1.last, (cell_of_row _ _ 0 _ 3 (0, 0) n1).trans rfl, frozen_of_row _ _ 0 _ 3 n1⟩, (cell_of_row _ _ 0 _ 3 (0, 0) sN).trans rfl, hO, h.only.next hO, by simpa using sN, ?_⟩
  rw [l2]
  simp [lastK, hx]
theorem keys_rise {c : Nat} {xs : List Ch} {x : Ch} {a b : T} (hx : IsChg a.list b.list xs) (hc : xs[c]? = some x) (h0 : 0 < c) : Op.bytesLess x.1.toList (lastK xs c).toList = false ∧ (x.1.toList == (lastK xs c).toList) = false := by
  obtain ⟨d, rfl⟩ : ∃ d, c = d + 1 := ⟨c - 1, by omega⟩
  obtain ⟨l1, g1⟩ := List.getElem?_eq_some_iff.1 hc
  have hy : xs[d]? = some (xs[d]'(by omega)) := List.getElem?_eq_getElem _
  have hlt := List.pairwise_iff_getElem.1 hx.srt d (d + 1) (by omega) l1 (by omega)
  rw [g1] at hlt
  have hk : lastK xs (d + 1) = (xs[d]'(by omega)).1 := by simp [lastK, hy]
  rw [hk]
  have hgt : cmpB x.1 (xs[d]'(by omega)).1 = 1 := by have := ord_B.anti (xs[d]'(by omega)).1 x.1; rw [hlt] at this; omega
  constructor
  · rw [ByteArray.toList_eq, ByteArray.toList_eq, less_cb]
    unfold cmpB at hgt
    rw [hgt]
    decide
  · rw [beq_eq_false_iff_ne]
    intro e
    have := bytes_ext e
    rw [this] at hlt
    exact cmp_ne hlt rfl
theorem fn_nil54 (f : Fn) (x y : Array Value) (w : World) : (binOp .eql 54 (.func f x y) .nilFunc).run Try.prog w = .ok (.bool false) w := by kernel_rfl
set_option maxHeartbeats 16000000 in
set_option maxRecDepth 100000 in
theorem two_walk (HK : KnownOk) {ks pa pb : List ByteArray} {ta tb : List Int} {s0 s1 s2 s3 s4 : Value} (x y z : Bool) (leave : Int) (w : World) (h : ThreeIs w s0 s1 s2 s3 s4 ks pa pb ta tb) :
    Calls Try.prog 6 #[.agg #[s0, s1, s2, s3, s4, .bool x, .bool y, .bool z], .int .i64 leave] w fun e w' => e = .returned (.bool true) ∧ Below w.heap.size w w' := by
  have hf := h.few x y z (((w.alloc (.cells #[s0, s1, s2, s3, s4, .bool x, .bool y, .bool z] 25)).alloc (.cells #[.int .i64 leave] 3)).alloc (.cells #[.bool false] 4))
  obtain ⟨r0, rl0, rr0, b0⟩ := new3 w (.cells #[s0, s1, s2, s3, s4, .bool x, .bool y, .bool z] 25) (.cells #[.int .i64 leave] 3) (.cells #[.bool false] 4)
  obtain ⟨a0, n0, c0, a1, n1, c1, a2, n2, c2, a3, n3, c3, a4, n4, c4, rfl, rfl, rfl, rfl, rfl⟩ := h.shapes
  have HT := hide (And.intro h (And.intro b0 (And.intro r0 (And.intro rl0 rr0))))
  replace HK := hide HK
  clear h b0 r0 rl0 rr0
  by_cases hfew : fewB ks pa pb ta tb
  · have hf1 := hf.1 hfew
    have HF := hide hfew
    clear hf hfew
    refine calls_marks Try.func6 rfl ?_
    simp only [Try.ntmps6, List.size_toArray, List.length_cons, List.length_nil, Nat.reduceAdd, Nat.reduceSub, Array.replicate_succ, Array.replicate_zero, List.push_toArray, List.append_toArray, List.nil_append, List.cons_append]
    go_upto_if 23 with (go_at_call 7; refine hf1.mono ?_; rintro e w1 ⟨rfl, b1⟩; dsimp only)
    clear hf1
    have up1 : ∀ {j : Nat} {o : Obj}, (((w.alloc (.cells #[.slice a0 n0 c0, .slice a1 n1 c1, .slice a2 n2 c2, .slice a3 n3 c3, .slice a4 n4 c4, .bool x, .bool y, .bool z] 25)).alloc (.cells #[.int .i64 leave] 3)).alloc (.cells #[.bool false] 4)).heap[j]? = some o → w1.heap[j]? = some o := fun {j o} h => (b1.block _ (Array.getElem?_eq_some_iff.1 h).1).trans h
    have r1 := up1 HT.out.2.2.1
    have rl1 := up1 HT.out.2.2.2.1
    have rr1 := up1 HT.out.2.2.2.2
    have cx0 : w1.cell? ⟨w.heap.size, 0, none⟩ = some (.slice a0 n0 c0) := (cell_of_row _ _ 0 _ 25 (0, 0) r1).trans rfl
    have cx1 : w1.cell? ⟨w.heap.size, 1, none⟩ = some (.slice a1 n1 c1) := (cell_of_row _ _ 1 _ 25 (0, 0) r1).trans rfl
    have cx2 : w1.cell? ⟨w.heap.size, 2, none⟩ = some (.slice a2 n2 c2) := (cell_of_row _ _ 2 _ 25 (0, 0) r1).trans rfl
    have cx3 : w1.cell? ⟨w.heap.size, 3, none⟩ = some (.slice a3 n3 c3) := (cell_of_row _ _ 3 _ 25 (0, 0) r1).trans rfl
    have cx4 : w1.cell? ⟨w.heap.size, 4, none⟩ = some (.slice a4 n4 c4) := (cell_of_row _ _ 4 _ 25 (0, 0) r1).trans rfl
    have cx5 : w1.cell? ⟨w.heap.size, 5, none⟩ = some (.bool x) := (cell_of_row _ _ 5 _ 25 (0, 0) r1).trans rfl
    have cx6 : w1.cell? ⟨w.heap.size, 6, none⟩ = some (.bool y) := (cell_of_row _ _ 6 _ 25 (0, 0) r1).trans rfl
    have cx7 : w1.cell? ⟨w.heap.size, 7, none⟩ = some (.bool z) := (cell_of_row _ _ 7 _ 25 (0, 0) r1).trans rfl
    have bw1 := HT.out.2.1.trans (b1.mono HT.out.2.1.size)
    have H1 := hide bw1
    have hm := (HT.out.1.below bw1).maps x y z HF.out
    obtain ⟨Rs, hRs⟩ : ∃ P, P = w.heap.size + 1 + 1 := ⟨_, rfl⟩
    obtain ⟨Lv, hLv⟩ : ∃ P, P = w.heap.size + 1 := ⟨_, rfl⟩
    have hRL : Lv ≠ Rs ∧ w.heap.size ≤ Lv ∧ w.heap.size ≤ Rs := by omega
    rw [← hRs] at rr1
    rw [← hLv] at rl1
    rw [← hRs]
    rw [← hLv]
    have HRR := hide (And.intro rl1 (And.intro rr1 hRL))
    clear r1 b1 bw1 rl1 rr1 up1 hRs hLv hRL
    go_upto_region 4 with (go_at_call 9; refine hm.mono ?_; rintro e w2 ⟨o, a, b, po, pa', pb', rfl, htr, b2⟩; dsimp only)
    clear hm cx0 cx1 cx2 cx3 cx4 cx5 cx6 cx7
    obtain ⟨m0, m1, m2, b3⟩ := new3 w2 (.cells #[.pointer po] 29) (.cells #[.pointer pa'] 29) (.cells #[.pointer pb'] 29)
    obtain ⟨w3, hw3⟩ : ∃ w3, w3 = ((w2.alloc (.cells #[.pointer po] 29)).alloc (.cells #[.pointer pa'] 29)).alloc (.cells #[.pointer pb'] 29) := ⟨_, rfl⟩
    rw [← hw3] at m0 m1 m2 b3 ⊢
    have b23 := b2.trans (b3.mono b2.size)
    have up3 : ∀ {j : Nat} {o : Obj}, w1.heap[j]? = some o → w3.heap[j]? = some o := fun {j o} h => (b23.block _ (Array.getElem?_eq_some_iff.1 h).1).trans h
    have HR3 := hide (And.intro (up3 HRR.out.1) (And.intro (up3 HRR.out.2.1) HRR.out.2.2))
    have HP := hide htr.2
    have H3 := hide (And.intro (htr.1.below b3) (H1.out.trans (b23.mono H1.out.size)))
    obtain ⟨X0, hX0⟩ : ∃ X, X = w2.heap.size := ⟨_, rfl⟩
    obtain ⟨X1, hX1⟩ : ∃ X, X = w2.heap.size + 1 := ⟨_, rfl⟩
    obtain ⟨X2, hX2⟩ : ∃ X, X = w2.heap.size + 1 + 1 := ⟨_, rfl⟩
    rw [← hX2] at m2 ⊢
    rw [← hX1] at m1 ⊢
    rw [← hX0] at m0 ⊢
    have d1 : w3.cell? ⟨X1, 0, none⟩ = some (.pointer pa') := (cell_of_row _ _ 0 _ 29 (0, 0) m1).trans rfl
    have d2 : w3.cell? ⟨X2, 0, none⟩ = some (.pointer pb') := (cell_of_row _ _ 0 _ 29 (0, 0) m2).trans rfl
    clear hX0 hX1 hX2 hw3 b3 b2 b23 htr H1 up3 HRR m0 m1 m2
    obtain ⟨xs, hx⟩ := chg_exists (la := a.list) (lb := b.list) H3.out.1.sa
    have hxl : xs.length ≤ 160 := by have := hx.len H3.out.1.sa; rw [T.n_eq, T.n_eq] at this; have := HP.out.2.2.2; omega
    have gU := union_any a b pa' pb' xs w3 H3.out.1.ia H3.out.1.ib H3.out.1.sa H3.out.1.sb H3.out.1.ba H3.out.1.nab HP.out.2.1 HP.out.2.2.1 hx (by omega)
    have HX := hide (And.intro hx hxl)
    clear hx hxl
    go_upto_region 5 with (go_at_call 21; refine gU.mono ?_; rintro e u0 ⟨u, pu, rfl, hpu, iu, su, bu⟩; have HU0 := hide (And.intro hpu (And.intro iu (And.intro su bu))); clear hpu iu su bu; dsimp only)
    clear gU
    obtain ⟨v1, hv1, e0, f0⟩ := box_new u0 (.pointer pu) 29
    rw [← hv1]
    have bu0 := HU0.out.2.2.2
    have k0 := bu0.trans (f0.mono bu0.size)
    have HU := hide (And.intro HU0.out.1 (And.intro (In.below f0 HU0.out.2.1) HU0.out.2.2.1))
    have H4 := hide (And.intro (H3.out.1.below k0) (H3.out.2.trans (k0.mono H3.out.2.size)))
    have HR4 := hide (And.intro ((k0.block _ (Array.getElem?_eq_some_iff.1 HR3.out.1).1).trans HR3.out.1) (And.intro ((k0.block _ (Array.getElem?_eq_some_iff.1 HR3.out.2.1).1).trans HR3.out.2.1) HR3.out.2.2))
    replace d1 := cell_stays d1 k0
    replace d2 := cell_stays d2 k0
    obtain ⟨Y0, hY0⟩ : ∃ Y, Y = u0.heap.size := ⟨_, rfl⟩
    rw [← hY0] at e0 ⊢
    clear hY0 hv1 f0 bu0 k0 HU0 H3 HR3
    have gK := keys_two (a := a) (b := b) HP.out.2.1 HP.out.2.2.1 H4.out.1.ia H4.out.1.ib (by have := HP.out.2.2.2; omega) (by have := HP.out.2.2.2; omega)
    go_upto_region 6 with (go_at_call 11; refine gK.mono ?_; rintro e wL ⟨sv, rfl, hcs, bL⟩; obtain ⟨la, lc, rfl, -⟩ := hcs.ex; have HCS := hide hcs; have HBL := hide bL; clear hcs bL; dsimp only)
    clear gK
    rw [List.length_map] at HCS
    simp only [List.length_map]
    obtain ⟨L, hL⟩ : ∃ L, L = a.keys ++ b.keys := ⟨_, rfl⟩
    rw [← hL] at HCS ⊢
    obtain ⟨N, hN⟩ : ∃ N, N = L.length := ⟨_, rfl⟩
    rw [← hN] at HCS ⊢
    have hN1 : N ≤ 1000 := by rw [hN, hL, List.length_append, T.keys_len, T.keys_len]; have := HP.out.2.2.2; omega
    have HLL := hide hL
    have HN := hide hN
    clear hL hN
    have H6 := hide (And.intro (H4.out.1.below HBL.out) (And.intro (In.below HBL.out HU.out.2.1) (H4.out.2.trans (HBL.out.mono H4.out.2.size))))
    have HR6 := hide (And.intro ((HBL.out.block _ (Array.getElem?_eq_some_iff.1 HR4.out.1).1).trans HR4.out.1) (And.intro ((HBL.out.block _ (Array.getElem?_eq_some_iff.1 HR4.out.2.1).1).trans HR4.out.2.1) HR4.out.2.2))
    replace d1 := cell_stays d1 HBL.out
    replace d2 := cell_stays d2 HBL.out
    replace e0 := cell_stays e0 HBL.out
    have HCL := hide (And.intro d1 (And.intro d2 e0))
    clear d1 d2 e0 HBL H4 HR4
    have HI : Hid (Counted (oneB a b) (L.take 0) 0) := hide (Counted.none _)
    go_wp2
    go_loopw [10, 11] (fun v10 v11 wr => ∃ (i c : Nat), i ≤ N ∧ c ≤ i ∧ v11 = .int .i64 i ∧ v10 = .int .i64 c ∧ Hid (Counted (oneB a b) (L.take i) c) ∧ Hid (Below wL.heap.size wL wr)) (fun _ v11 _ => N - (intOf v11).toNat)
    case atStart => exact ⟨0, 0, by omega, by omega, rfl, rfl, HI, hide (Below.refl _ _)⟩
    case round =>
      clear HI
      obtain ⟨i, c, hi, hci, rfl, rfl, HCO, HB⟩ := hrel
      by_cases hiN : i < N
      · as_aux_lemma =>
        have y1 : (i : Int) < (N : Int) := by omega
        obtain ⟨k, hk⟩ : ∃ k, L[i]? = some k := ⟨L[i]'(by rw [← HN.out]; exact hiN), List.getElem?_eq_getElem _⟩
        obtain ⟨lb, lo, lc', e2, ck⟩ := csAt HCS.out (j := i) (u := .string k) (by rw [List.getElem?_map, hk]; rfl)
        simp only [Value.slice.injEq] at e2
        obtain ⟨rfl, -, rfl⟩ := e2
        have HKK := hide hk
        have HONC := hide (fun ho => two_once (a := a) (b := b) (i := i) (k := k) H6.out.1.sa H6.out.1.sb (by rw [← HLL.out]; exact hk) ho)
        rw [← HLL.out] at HONC
        clear hk
        have q0 : wr.cell? ⟨X1, 0, none⟩ = some (.pointer pa') ∧ wr.cell? ⟨X2, 0, none⟩ = some (.pointer pb') ∧ wr.cell? ⟨Y0, 0, none⟩ = some (.pointer pu) ∧ wr.cell? ⟨lb, lo + i, none⟩ = some (.string k) ∧ Hid (Below wL.heap.size wL wr) := ⟨cell_stays HCL.out.1 HB.out, cell_stays HCL.out.2.1 HB.out, cell_stays HCL.out.2.2 HB.out, cell_stays ck HB.out, HB⟩
        clear ck
        obtain ⟨⟨p1, p2⟩, hp⟩ : ∃ p, p = look k a.list := ⟨_, rfl⟩
        obtain ⟨⟨s1', s2'⟩, hq⟩ : ∃ p, p = look k b.list := ⟨_, rfl⟩
        have HUS := hide (HU.out.2.2.2.2 k)
        have HPQ := hide (And.intro hp hq)
        have HONE : Hid (oneB a b k = (p2 != s2')) := hide (by unfold oneB; rw [← hp, ← hq])
        have hpartp : ∀ W, Below wL.heap.size wL W → Calls Try.prog 12 #[.agg #[.pointer pa'], .string k] W fun e w' => ∃ v, e = .returned v ∧ (v = .agg #[.int .i64 p1, .bool p2]) ∧ Below W.heap.size W w' := fun W hW => by
          have := part_any a k W (In.below hW H6.out.1.ia) H6.out.1.sa
          rw [mv_ptr HP.out.2.1, ← hp] at this
          exact this.mono (fun e w' h => ⟨_, h.1, rfl, h.2⟩)
        have hparts : ∀ W, Below wL.heap.size wL W → Calls Try.prog 12 #[.agg #[.pointer pb'], .string k] W fun e w' => ∃ v, e = .returned v ∧ (v = .agg #[.int .i64 s1', .bool s2']) ∧ Below W.heap.size W w' := fun W hW => by
          have := part_any b k W (In.below hW H6.out.1.ib) H6.out.1.sb
          rw [mv_ptr HP.out.2.2.1, ← hq] at this
          exact this.mono (fun e w' h => ⟨_, h.1, rfl, h.2⟩)
        have hgu0 : ∀ W, Below wL.heap.size wL W → Calls Try.prog 12 #[.agg #[.pointer pu], .string k] W fun e w' => e = .returned (pv (look k u.list)) ∧ Below W.heap.size W w' := fun W hW => by
          have := part_any u k W (In.below hW H6.out.2.1) HU.out.2.2.2.1
          rw [mv_ptr HU.out.1] at this
          exact this
        clear hp hq HB
        go_upto_region 10 with (fail)
        have qd : wr.drew.cell? ⟨X1, 0, none⟩ = some (.pointer pa') ∧ wr.drew.cell? ⟨X2, 0, none⟩ = some (.pointer pb') ∧ wr.drew.cell? ⟨Y0, 0, none⟩ = some (.pointer pu) ∧ wr.drew.cell? ⟨lb, lo + i, none⟩ = some (.string k) ∧ Hid (Below wL.heap.size wL wr.drew) := ⟨q0.1, q0.2.1, q0.2.2.1, q0.2.2.2.1, hide (q0.2.2.2.2.out.trans ((drew_below wr).mono q0.2.2.2.2.out.size))⟩
        refine wp_region_held_drew (S := (fun w' => w'.cell? ⟨X1, 0, none⟩ = some (.pointer pa') ∧ w'.cell? ⟨X2, 0, none⟩ = some (.pointer pb') ∧ w'.cell? ⟨Y0, 0, none⟩ = some (.pointer pu) ∧ w'.cell? ⟨lb, lo + i, none⟩ = some (.string k) ∧ Hid (Below wL.heap.size wL w'))) (by kernel_rfl) qd (fun hHeld => ?_)
        try dsimp only at hHeld
        refine take_op (i := 0) (d := 44) (OP := Op.load 29 (Operand.tmp 6)) (T := 29) (v := ?vzz1) rfl rfl rfl rfl (by kernel_rfl) (by kernel_rfl) (by kernel_rfl) (fun _ _ _ h => h) (by rfl) ?hzz1 hHeld ?rzz1
        case hzz1 => (intro w' hSw; (try dsimp only at hSw); go_simp <;> with_reducible rfl)
        try simp only [Act.put, List.setIfInBounds_toArray, List.set_cons_zero, List.set_cons_succ]
        refine take_op (i := 1) (d := 45) (OP := Op.move (Operand.tmp 9)) (T := 22) (v := ?vzz2) rfl rfl rfl rfl (by kernel_rfl) (by kernel_rfl) (by kernel_rfl) (fun _ _ _ h => h) (by rfl) ?hzz2 hHeld ?rzz2
        case hzz2 => (intro w' hSw; (try dsimp only at hSw); go_simp <;> with_reducible rfl)
        try simp only [Act.put, List.setIfInBounds_toArray, List.set_cons_zero, List.set_cons_succ]
        refine take_op (i := 2) (d := 46) (OP := Op.move (Operand.tmp 11)) (T := 3) (v := ?vzz3) rfl rfl rfl rfl (by kernel_rfl) (by kernel_rfl) (by kernel_rfl) (fun _ _ _ h => h) (by rfl) ?hzz3 hHeld ?rzz3
        case hzz3 => (intro w' hSw; (try dsimp only at hSw); go_simp <;> with_reducible rfl)
        try simp only [Act.put, List.setIfInBounds_toArray, List.set_cons_zero, List.set_cons_succ]
        refine take_op (i := 3) (d := 47) (OP := Op.indexAddr 22 (Operand.tmp 45) (Operand.tmp 46)) (T := 0) (v := ?vzz4) rfl rfl rfl rfl (by kernel_rfl) (by kernel_rfl) (by kernel_rfl) (fun _ _ _ h => h) (by rfl) ?hzz4 hHeld ?rzz4
        case hzz4 => (intro w' hSw; (try dsimp only at hSw); go_simp <;> with_reducible rfl)
        try simp only [Act.put, List.setIfInBounds_toArray, List.set_cons_zero, List.set_cons_succ]
        refine take_op (i := 4) (d := 48) (OP := Op.load 9 (Operand.tmp 47)) (T := 9) (v := ?vzz5) rfl rfl rfl rfl (by kernel_rfl) (by kernel_rfl) (by kernel_rfl) (fun _ _ _ h => h) (by rfl) ?hzz5 hHeld ?rzz5
        case hzz5 => (intro w' hSw; (try dsimp only at hSw); go_simp <;> with_reducible rfl)
        try simp only [Act.put, List.setIfInBounds_toArray, List.set_cons_zero, List.set_cons_succ]
        refine take_op (i := 6) (d := 50) (OP := Op.load 29 (Operand.tmp 7)) (T := 29) (v := ?vzz6) rfl rfl rfl rfl (by kernel_rfl) (by kernel_rfl) (by kernel_rfl) (fun _ _ _ h => h) (by rfl) ?hzz6 hHeld ?rzz6
        case hzz6 => (intro w' hSw; (try dsimp only at hSw); go_simp <;> with_reducible rfl)
        try simp only [Act.put, List.setIfInBounds_toArray, List.set_cons_zero, List.set_cons_succ]
        refine take_op (i := 7) (d := 51) (OP := Op.move (Operand.tmp 9)) (T := 22) (v := ?vzz7) rfl rfl rfl rfl (by kernel_rfl) (by kernel_rfl) (by kernel_rfl) (fun _ _ _ h => h) (by rfl) ?hzz7 hHeld ?rzz7
        case hzz7 => (intro w' hSw; (try dsimp only at hSw); go_simp <;> with_reducible rfl)
        try simp only [Act.put, List.setIfInBounds_toArray, List.set_cons_zero, List.set_cons_succ]
        refine take_op (i := 8) (d := 52) (OP := Op.move (Operand.tmp 11)) (T := 3) (v := ?vzz8) rfl rfl rfl rfl (by kernel_rfl) (by kernel_rfl) (by kernel_rfl) (fun _ _ _ h => h) (by rfl) ?hzz8 hHeld ?rzz8
        case hzz8 => (intro w' hSw; (try dsimp only at hSw); go_simp <;> with_reducible rfl)
        try simp only [Act.put, List.setIfInBounds_toArray, List.set_cons_zero, List.set_cons_succ]
        refine take_op (i := 9) (d := 53) (OP := Op.indexAddr 22 (Operand.tmp 51) (Operand.tmp 52)) (T := 0) (v := ?vzz9) rfl rfl rfl rfl (by kernel_rfl) (by kernel_rfl) (by kernel_rfl) (fun _ _ _ h => h) (by rfl) ?hzz9 hHeld ?rzz9
        case hzz9 => (intro w' hSw; (try dsimp only at hSw); go_simp <;> with_reducible rfl)
        try simp only [Act.put, List.setIfInBounds_toArray, List.set_cons_zero, List.set_cons_succ]
        refine take_op (i := 10) (d := 54) (OP := Op.load 9 (Operand.tmp 53)) (T := 9) (v := ?vzz10) rfl rfl rfl rfl (by kernel_rfl) (by kernel_rfl) (by kernel_rfl) (fun _ _ _ h => h) (by rfl) ?hzz10 hHeld ?rzz10
        case hzz10 => (intro w' hSw; (try dsimp only at hSw); go_simp <;> with_reducible rfl)
        try simp only [Act.put, List.setIfInBounds_toArray, List.set_cons_zero, List.set_cons_succ]
        refine to_reg9 (ops' := ops_regT) (l' := #[true, true, true, true, true, false, true, true, true, true, true, false, false, false, false, false]) rfl (by kernel_rfl) ?_
        refine regT_any (w0 := wr.drew) (x5_0 := .agg #[.pointer pa']) (x5_1 := .string k) (C5 := fun v _ => v = .agg #[.int .i64 p1, .bool p2]) (x11_0 := .agg #[.pointer pb']) (x11_1 := .string k) (C11 := fun v _ => v = .agg #[.int .i64 s1', .bool s2']) (by simp [Act.eval]) (by simp [Act.eval]) (by simp [Act.eval]) (by simp [Act.eval]) (fun W hW => ⟨cell_stays qd.1 hW, cell_stays qd.2.1 hW, cell_stays qd.2.2.1 hW, cell_stays qd.2.2.2.1 hW, hide (qd.2.2.2.2.out.trans (hW.mono qd.2.2.2.2.out.size))⟩) (fun W hW => hpartp W (qd.2.2.2.2.out.trans (hW.mono qd.2.2.2.2.out.size))) (fun W hW => hparts W (qd.2.2.2.2.out.trans (hW.mono qd.2.2.2.2.out.size))) (fun _ _ _ h _ => h) (fun _ _ _ h _ => h) ?_ wr.drew (Below.refl _ _)
        rintro v5 v11 Bp Bs W hbW rfl rfl z0 z1 l0 l1 n01
        try simp only [Act.put, List.setIfInBounds_toArray, List.set_cons_zero, List.set_cons_succ]
        have qW : W.cell? ⟨X1, 0, none⟩ = some (.pointer pa') ∧ W.cell? ⟨X2, 0, none⟩ = some (.pointer pb') ∧ W.cell? ⟨Y0, 0, none⟩ = some (.pointer pu) ∧ W.cell? ⟨lb, lo + i, none⟩ = some (.string k) ∧ Hid (Below wL.heap.size wL W) := ⟨cell_stays qd.1 hbW, cell_stays qd.2.1 hbW, cell_stays qd.2.2.1 hbW, cell_stays qd.2.2.2.1 hbW, hide (qd.2.2.2.2.out.trans (hbW.mono qd.2.2.2.2.out.size))⟩
        have hlow : wL.heap.size ≤ wr.heap.size := qd.2.2.2.2.out.size
        have hlt0 := World.block_lt_of_cell? wr.drew _ qd.1
        simp only at hlt0
        have hlt1 := World.block_lt_of_cell? wr.drew _ qd.2.1
        simp only at hlt1
        have hlt2 := World.block_lt_of_cell? wr.drew _ qd.2.2.1
        simp only at hlt2
        have hlt3 := World.block_lt_of_cell? wr.drew _ qd.2.2.2.1
        simp only at hlt3
        have hdz : wr.drew.heap.size = wr.heap.size := rfl
        have e0 : W.cell? ⟨Bp, 0, none⟩ = some (.int .i64 0) := (cell_of_row _ _ 0 _ 38 (0, 0) z0).trans rfl
        have e1 : W.cell? ⟨Bp, 1, none⟩ = some (.bool false) := (cell_of_row _ _ 1 _ 38 (0, 0) z0).trans rfl
        have y0' : W.frozen? ⟨Bp, 0, none⟩ = false := frozen_of_row _ _ 0 _ 38 z0
        have y1' : W.frozen? ⟨Bp, 1, none⟩ = false := frozen_of_row _ _ 1 _ 38 z0
        obtain ⟨s0, o0⟩ := set2 (.int .i64 p1) (.bool p2) z0
        obtain ⟨y0, hy0⟩ : ∃ y, y = ((W.setCell ⟨Bp, 0, none⟩ (.int .i64 p1)).setCell ⟨Bp, 1, none⟩ (.bool p2)) := ⟨_, rfl⟩
        rw [← hy0] at s0 o0
        have qy0 : y0.cell? ⟨X1, 0, none⟩ = some (.pointer pa') ∧ y0.cell? ⟨X2, 0, none⟩ = some (.pointer pb') ∧ y0.cell? ⟨Y0, 0, none⟩ = some (.pointer pu) ∧ y0.cell? ⟨lb, lo + i, none⟩ = some (.string k) ∧ Hid (Below wL.heap.size wL y0) := ⟨o0.cell qW.1 (fun e => by simp only at e; omega), o0.cell qW.2.1 (fun e => by simp only at e; omega), o0.cell qW.2.2.1 (fun e => by simp only at e; omega), o0.cell qW.2.2.2.1 (fun e => by simp only at e; omega), hide (Below.only qW.2.2.2.2.out o0 qW.2.2.2.2.out.size (fun j e => by omega))⟩
        have t1_0 := (o0.block _ (Array.getElem?_eq_some_iff.1 z1).1 (fun e => by omega)).trans z1
        refine skip_op (i := 14) (OP := Op.store 38 (Operand.tmp 12) (Operand.tmp 49)) (T := 0) (w' := y0) rfl rfl rfl rfl (by kernel_rfl) (by rfl) (by rw [hy0]; go_simp) ⟨qy0, ?_⟩
        try simp only [Act.put, List.setIfInBounds_toArray, List.set_cons_zero, List.set_cons_succ]
        clear e0 e1 y0' y1' hy0
        have e0 : y0.cell? ⟨Bs, 0, none⟩ = some (.int .i64 0) := (cell_of_row _ _ 0 _ 38 (0, 0) t1_0).trans rfl
        have e1 : y0.cell? ⟨Bs, 1, none⟩ = some (.bool false) := (cell_of_row _ _ 1 _ 38 (0, 0) t1_0).trans rfl
        have y0' : y0.frozen? ⟨Bs, 0, none⟩ = false := frozen_of_row _ _ 0 _ 38 t1_0
        have y1' : y0.frozen? ⟨Bs, 1, none⟩ = false := frozen_of_row _ _ 1 _ 38 t1_0
        obtain ⟨s1, o1⟩ := set2 (.int .i64 s1') (.bool s2') t1_0
        obtain ⟨y1, hy1⟩ : ∃ y, y = ((y0.setCell ⟨Bs, 0, none⟩ (.int .i64 s1')).setCell ⟨Bs, 1, none⟩ (.bool s2')) := ⟨_, rfl⟩
        rw [← hy1] at s1 o1
        have qy1 : y1.cell? ⟨X1, 0, none⟩ = some (.pointer pa') ∧ y1.cell? ⟨X2, 0, none⟩ = some (.pointer pb') ∧ y1.cell? ⟨Y0, 0, none⟩ = some (.pointer pu) ∧ y1.cell? ⟨lb, lo + i, none⟩ = some (.string k) ∧ Hid (Below wL.heap.size wL y1) := ⟨o1.cell qy0.1 (fun e => by simp only at e; omega), o1.cell qy0.2.1 (fun e => by simp only at e; omega), o1.cell qy0.2.2.1 (fun e => by simp only at e; omega), o1.cell qy0.2.2.2.1 (fun e => by simp only at e; omega), hide (Below.only qy0.2.2.2.2.out o1 qy0.2.2.2.2.out.size (fun j e => by omega))⟩
        have t0_1 := (o1.block _ (Array.getElem?_eq_some_iff.1 s0).1 (fun e => by omega)).trans s0
        refine skip_op (i := 15) (OP := Op.store 38 (Operand.tmp 13) (Operand.tmp 55)) (T := 0) (w' := y1) rfl rfl rfl rfl (by kernel_rfl) (by rfl) (by rw [hy1]; go_simp) ⟨qy1, ?_⟩
        try simp only [Act.put, List.setIfInBounds_toArray, List.set_cons_zero, List.set_cons_succ]
        clear e0 e1 y0' y1' hy1
        refine wpAnyH_done (by kernel_rfl) ?_ _
        have ccp0 : y1.cell? ⟨Bp, 0, none⟩ = some (.int .i64 p1) := (cell_of_row _ _ 0 _ 38 (0, 0) t0_1).trans rfl
        have ccp1 : y1.cell? ⟨Bp, 1, none⟩ = some (.bool p2) := (cell_of_row _ _ 1 _ 38 (0, 0) t0_1).trans rfl
        have ccs0 : y1.cell? ⟨Bs, 0, none⟩ = some (.int .i64 s1') := (cell_of_row _ _ 0 _ 38 (0, 0) s1).trans rfl
        have ccs1 : y1.cell? ⟨Bs, 1, none⟩ = some (.bool s2') := (cell_of_row _ _ 1 _ 38 (0, 0) s1).trans rfl
        clear hbW hlow hdz hHeld qW z0 s0 o0 l0 z1 s1 o1 l1 n01 hlt0 hlt1 hlt2 hlt3 qy0 t0_1 t1_0 qd
        clear hpartp hparts
        go_upto_region 12 with (fail)
        obtain ⟨wa, hwa, cwa, hbwa⟩ : ∃ W, W = y1.alloc (.cells #[.int .i64 p1, .bool p2] 38) ∧ W.heap[y1.heap.size]? = some (.cells #[.int .i64 p1, .bool p2] 38 (0, 0)) ∧ Below y1.heap.size y1 W := ⟨_, rfl, heap_alloc_new y1 _, (Below.refl _ _).alloc (Nat.le_refl _) _⟩
        rw [← hwa]
        obtain ⟨Bw, hBw⟩ : ∃ B, B = y1.heap.size := ⟨_, rfl⟩
        rw [← hBw] at cwa ⊢
        have hlt0 := World.block_lt_of_cell? y1 _ qy1.2.2.1
        have hlt1 := World.block_lt_of_cell? y1 _ qy1.2.2.2.1
        have hltL : wL.heap.size ≤ Bw := by rw [hBw]; exact qy1.2.2.2.2.out.size
        have hltP := World.block_lt_of_cell? y1 _ ccp0
        have hltS := World.block_lt_of_cell? y1 _ ccs0
        simp only at hlt0 hlt1 hltP hltS
        rw [← hBw] at hlt0 hlt1 hltP hltS
        have cY := cell_stays qy1.2.2.1 hbwa
        have cK := cell_stays qy1.2.2.2.1 hbwa
        have kp0 := cell_stays ccp0 hbwa
        have kp1 := cell_stays ccp1 hbwa
        have ks0 := cell_stays ccs0 hbwa
        have ks1 := cell_stays ccs1 hbwa
        have HBA : Hid (Below wL.heap.size wL wa) := hide (qy1.2.2.2.2.out.trans (hbwa.mono qy1.2.2.2.2.out.size))
        have HCW := hide cwa
        clear hwa hbwa hBw qy1 ccp0 ccp1 ccs0 ccs1
        have kb0 : wa.cell? ⟨Bw, 0, none⟩ = some (.int .i64 p1) := (cell_of_row _ _ 0 _ 38 (0, 0) cwa).trans rfl
        have kb1 : wa.cell? ⟨Bw, 1, none⟩ = some (.bool p2) := (cell_of_row _ _ 1 _ 38 (0, 0) cwa).trans rfl
        have kf0 : wa.frozen? ⟨Bw, 0, none⟩ = false := frozen_of_row _ _ 0 _ 38 cwa
        have kf1 : wa.frozen? ⟨Bw, 1, none⟩ = false := frozen_of_row _ _ 1 _ 38 cwa
        clear cwa
        cases p2
        · have hgu : ∀ W', Below wL.heap.size wL W' → Calls Try.prog 12 #[.agg #[.pointer pu], .string k] W' fun e w' => e = .returned (.agg #[.int .i64 s1', .bool s2']) ∧ Below W'.heap.size W' w' := fun W' hW => by
            have := hgu0 W' hW
            have hh := HUS.out
            rw [← HPQ.out.1, ← HPQ.out.2] at hh
            rw [if_neg (by simp)] at hh
            rw [hh] at this
            exact this
          have nes := run_ne38 s1' s1' s2' s2'
          rw [decide_eq_true rfl] at nes
          obtain ⟨sz, oz⟩ := set2 (.int .i64 s1') (.bool s2') HCW.out
          go_upto_region 14 with (fail)
          obtain ⟨wz, hwz⟩ : ∃ wz, wz = (wa.setCell ⟨Bw, 0, none⟩ (.int .i64 s1')).setCell ⟨Bw, 1, none⟩ (.bool s2') := ⟨_, rfl⟩
          rw [← hwz] at sz oz ⊢
          have qt : wz.cell? ⟨Y0, 0, none⟩ = some (.pointer pu) ∧ wz.cell? ⟨lb, lo + i, none⟩ = some (.string k) ∧ wz.cell? ⟨Bw, 0, none⟩ = some (.int .i64 s1') ∧ wz.cell? ⟨Bw, 1, none⟩ = some (.bool s2') ∧ wz.cell? ⟨Bp, 1, none⟩ = some (.bool false) ∧ wz.cell? ⟨Bs, 1, none⟩ = some (.bool s2') ∧ Hid (Below wL.heap.size wL wz) := ⟨oz.cell cY (fun e => by simp only at e; omega), oz.cell cK (fun e => by simp only at e; omega), (cell_of_row _ _ 0 _ 38 (0, 0) sz).trans rfl, (cell_of_row _ _ 1 _ 38 (0, 0) sz).trans rfl, oz.cell kp1 (fun e => by simp only at e; omega), oz.cell ks1 (fun e => by simp only at e; omega), hide (Below.only HBA.out oz HBA.out.size (fun j e => by omega))⟩
          clear hwz sz oz cY cK kb0 kb1 kp0 kp1 ks0 ks1 kf0 kf1 HBA
          have qd : wz.drew.cell? ⟨Y0, 0, none⟩ = some (.pointer pu) ∧ wz.drew.cell? ⟨lb, lo + i, none⟩ = some (.string k) ∧ wz.drew.cell? ⟨Bw, 0, none⟩ = some (.int .i64 s1') ∧ wz.drew.cell? ⟨Bw, 1, none⟩ = some (.bool s2') ∧ wz.drew.cell? ⟨Bp, 1, none⟩ = some (.bool false) ∧ wz.drew.cell? ⟨Bs, 1, none⟩ = some (.bool s2') ∧ Hid (Below wL.heap.size wL wz.drew) := ⟨qt.1, qt.2.1, qt.2.2.1, qt.2.2.2.1, qt.2.2.2.2.1, qt.2.2.2.2.2.1, hide (qt.2.2.2.2.2.2.out.trans ((drew_below wz).mono qt.2.2.2.2.2.2.out.size))⟩
          refine wp_region_held_drew (S := (fun w' => w'.cell? ⟨Y0, 0, none⟩ = some (.pointer pu) ∧ w'.cell? ⟨lb, lo + i, none⟩ = some (.string k) ∧ w'.cell? ⟨Bw, 0, none⟩ = some (.int .i64 s1') ∧ w'.cell? ⟨Bw, 1, none⟩ = some (.bool s2') ∧ w'.cell? ⟨Bp, 1, none⟩ = some (.bool false) ∧ w'.cell? ⟨Bs, 1, none⟩ = some (.bool s2') ∧ Hid (Below wL.heap.size wL w'))) (by kernel_rfl) qd (fun hHeld => ?_)
          try dsimp only at hHeld
          refine take_op (i := 0) (d := 61) (OP := Op.load 29 (Operand.tmp 8)) (T := 29) (v := ?vzz11) rfl rfl rfl rfl (by kernel_rfl) (by kernel_rfl) (by kernel_rfl) (fun _ _ _ h => h) (by rfl) ?hzz11 hHeld ?rzz11
          case hzz11 => (intro w' hSw; (try dsimp only at hSw); go_simp <;> with_reducible rfl)
          try simp only [Act.put, List.setIfInBounds_toArray, List.set_cons_zero, List.set_cons_succ]
          refine take_op (i := 1) (d := 62) (OP := Op.move (Operand.tmp 9)) (T := 22) (v := ?vzz12) rfl rfl rfl rfl (by kernel_rfl) (by kernel_rfl) (by kernel_rfl) (fun _ _ _ h => h) (by rfl) ?hzz12 hHeld ?rzz12
          case hzz12 => (intro w' hSw; (try dsimp only at hSw); go_simp <;> with_reducible rfl)
          try simp only [Act.put, List.setIfInBounds_toArray, List.set_cons_zero, List.set_cons_succ]
          refine take_op (i := 2) (d := 63) (OP := Op.move (Operand.tmp 11)) (T := 3) (v := ?vzz13) rfl rfl rfl rfl (by kernel_rfl) (by kernel_rfl) (by kernel_rfl) (fun _ _ _ h => h) (by rfl) ?hzz13 hHeld ?rzz13
          case hzz13 => (intro w' hSw; (try dsimp only at hSw); go_simp <;> with_reducible rfl)
          try simp only [Act.put, List.setIfInBounds_toArray, List.set_cons_zero, List.set_cons_succ]
          refine take_op (i := 3) (d := 64) (OP := Op.indexAddr 22 (Operand.tmp 62) (Operand.tmp 63)) (T := 0) (v := ?vzz14) rfl rfl rfl rfl (by kernel_rfl) (by kernel_rfl) (by kernel_rfl) (fun _ _ _ h => h) (by rfl) ?hzz14 hHeld ?rzz14
          case hzz14 => (intro w' hSw; (try dsimp only at hSw); go_simp <;> with_reducible rfl)
          try simp only [Act.put, List.setIfInBounds_toArray, List.set_cons_zero, List.set_cons_succ]
          refine take_op (i := 4) (d := 65) (OP := Op.load 9 (Operand.tmp 64)) (T := 9) (v := ?vzz15) rfl rfl rfl rfl (by kernel_rfl) (by kernel_rfl) (by kernel_rfl) (fun _ _ _ h => h) (by rfl) ?hzz15 hHeld ?rzz15
          case hzz15 => (intro w' hSw; (try dsimp only at hSw); go_simp <;> with_reducible rfl)
          try simp only [Act.put, List.setIfInBounds_toArray, List.set_cons_zero, List.set_cons_succ]
          refine take_op (i := 6) (d := 67) (OP := Op.load 38 (Operand.tmp 14)) (T := 38) (v := ?vzz16) rfl rfl rfl rfl (by kernel_rfl) (by kernel_rfl) (by kernel_rfl) (fun _ _ _ h => h) (by rfl) ?hzz16 hHeld ?rzz16
          case hzz16 => (intro w' hSw; (try dsimp only at hSw); go_simp <;> with_reducible rfl)
          try simp only [Act.put, List.setIfInBounds_toArray, List.set_cons_zero, List.set_cons_succ]
          refine call_op (i := 5) (d := 66) (OP := Op.call { callee := Callee.value (Operand.func 12), args := #[Operand.tmp 61, Operand.tmp 65], argTypes := #[29, 9] }) (T := 38) (f := 12) (args := #[.agg #[.pointer pu], .string k]) rfl rfl rfl rfl (by kernel_rfl) (by rfl) (by go_simp) ?_
          refine (hgu _ qd.2.2.2.2.2.2.out).mono ?_
          rintro e ze ⟨rfl, bze⟩
          have qze : ze.cell? ⟨Y0, 0, none⟩ = some (.pointer pu) ∧ ze.cell? ⟨lb, lo + i, none⟩ = some (.string k) ∧ ze.cell? ⟨Bw, 0, none⟩ = some (.int .i64 s1') ∧ ze.cell? ⟨Bw, 1, none⟩ = some (.bool s2') ∧ ze.cell? ⟨Bp, 1, none⟩ = some (.bool false) ∧ ze.cell? ⟨Bs, 1, none⟩ = some (.bool s2') ∧ Hid (Below wL.heap.size wL ze) := ⟨cell_stays qd.1 bze, cell_stays qd.2.1 bze, cell_stays qd.2.2.1 bze, cell_stays qd.2.2.2.1 bze, cell_stays qd.2.2.2.2.1 bze, cell_stays qd.2.2.2.2.2.1 bze, hide (qd.2.2.2.2.2.2.out.trans (bze.mono qd.2.2.2.2.2.2.out.size))⟩
          refine ⟨_, rfl, qze, ?_⟩
          replace hHeld := qze
          try simp only [Act.put, List.setIfInBounds_toArray, List.set_cons_zero, List.set_cons_succ]
          refine take_op (i := 7) (d := 68) (OP := Op.binOp BinOp.neq 38 (Operand.tmp 66) (Operand.tmp 67) 38) (T := 4) (v := ?vzz17) rfl rfl rfl rfl (by kernel_rfl) (by kernel_rfl) (by kernel_rfl) (fun _ _ _ h => h) (by rfl) ?hzz17 hHeld ?rzz17
          case hzz17 => (intro w' hSw; (try dsimp only at hSw); go_simp <;> with_reducible rfl)
          try simp only [Act.put, List.setIfInBounds_toArray, List.set_cons_zero, List.set_cons_succ]
          refine wpAnyH_done (by kernel_rfl) ?_ _
          have tp := qze.2.2.2.2.1
          have ts := qze.2.2.2.2.2.1
          have HBE := qze.2.2.2.2.2.2
          clear hHeld qt qd qze hgu nes
          cases s2'
          · go_wp2
            go_roundw
            case rel => exact ⟨i + 1, c, by omega, by omega, by go_num, rfl, hide (by rw [List.take_add_one, HKK.out]; exact HCO.out.same (fun h => by have h1 := HONE.out; rw [h.1] at h1; simp at h1)), HBE⟩
            case measure => simp [intOf]; omega
          · go_wp2
            go_roundw
            case rel => exact ⟨i + 1, c + 1, by omega, by omega, by go_num, by go_num, hide (by rw [List.take_add_one, HKK.out]; exact HCO.out.more ⟨HONE.out.trans (by simp), HONC.out (HONE.out.trans (by simp))⟩), HBE⟩
            case measure => simp [intOf]; omega
        · have hgu : ∀ W', Below wL.heap.size wL W' → Calls Try.prog 12 #[.agg #[.pointer pu], .string k] W' fun e w' => e = .returned (.agg #[.int .i64 p1, .bool true]) ∧ Below W'.heap.size W' w' := fun W' hW => by
            have := hgu0 W' hW
            have hh := HUS.out
            rw [← HPQ.out.1, ← HPQ.out.2] at hh
            rw [if_pos rfl] at hh
            rw [hh] at this
            exact this
          have nes := run_ne38 p1 p1 true true
          rw [decide_eq_true rfl] at nes
          have qt : wa.cell? ⟨Y0, 0, none⟩ = some (.pointer pu) ∧ wa.cell? ⟨lb, lo + i, none⟩ = some (.string k) ∧ wa.cell? ⟨Bw, 0, none⟩ = some (.int .i64 p1) ∧ wa.cell? ⟨Bw, 1, none⟩ = some (.bool true) ∧ wa.cell? ⟨Bp, 1, none⟩ = some (.bool true) ∧ wa.cell? ⟨Bs, 1, none⟩ = some (.bool s2') ∧ Hid (Below wL.heap.size wL wa) := ⟨cY, cK, kb0, kb1, kp1, ks1, HBA⟩
          clear cY cK kb0 kb1 kp0 kp1 ks0 ks1 kf0 kf1 HBA
          go_upto_region 14 with (fail)
          have qd : wa.drew.cell? ⟨Y0, 0, none⟩ = some (.pointer pu) ∧ wa.drew.cell? ⟨lb, lo + i, none⟩ = some (.string k) ∧ wa.drew.cell? ⟨Bw, 0, none⟩ = some (.int .i64 p1) ∧ wa.drew.cell? ⟨Bw, 1, none⟩ = some (.bool true) ∧ wa.drew.cell? ⟨Bp, 1, none⟩ = some (.bool true) ∧ wa.drew.cell? ⟨Bs, 1, none⟩ = some (.bool s2') ∧ Hid (Below wL.heap.size wL wa.drew) := ⟨qt.1, qt.2.1, qt.2.2.1, qt.2.2.2.1, qt.2.2.2.2.1, qt.2.2.2.2.2.1, hide (qt.2.2.2.2.2.2.out.trans ((drew_below wa).mono qt.2.2.2.2.2.2.out.size))⟩
          refine wp_region_held_drew (S := (fun w' => w'.cell? ⟨Y0, 0, none⟩ = some (.pointer pu) ∧ w'.cell? ⟨lb, lo + i, none⟩ = some (.string k) ∧ w'.cell? ⟨Bw, 0, none⟩ = some (.int .i64 p1) ∧ w'.cell? ⟨Bw, 1, none⟩ = some (.bool true) ∧ w'.cell? ⟨Bp, 1, none⟩ = some (.bool true) ∧ w'.cell? ⟨Bs, 1, none⟩ = some (.bool s2') ∧ Hid (Below wL.heap.size wL w'))) (by kernel_rfl) qd (fun hHeld => ?_)
          try dsimp only at hHeld
          refine take_op (i := 0) (d := 61) (OP := Op.load 29 (Operand.tmp 8)) (T := 29) (v := ?vzz18) rfl rfl rfl rfl (by kernel_rfl) (by kernel_rfl) (by kernel_rfl) (fun _ _ _ h => h) (by rfl) ?hzz18 hHeld ?rzz18
          case hzz18 => (intro w' hSw; (try dsimp only at hSw); go_simp <;> with_reducible rfl)
          try simp only [Act.put, List.setIfInBounds_toArray, List.set_cons_zero, List.set_cons_succ]
          refine take_op (i := 1) (d := 62) (OP := Op.move (Operand.tmp 9)) (T := 22) (v := ?vzz19) rfl rfl rfl rfl (by kernel_rfl) (by kernel_rfl) (by kernel_rfl) (fun _ _ _ h => h) (by rfl) ?hzz19 hHeld ?rzz19
          case hzz19 => (intro w' hSw; (try dsimp only at hSw); go_simp <;> with_reducible rfl)
          try simp only [Act.put, List.setIfInBounds_toArray, List.set_cons_zero, List.set_cons_succ]
          refine take_op (i := 2) (d := 63) (OP := Op.move (Operand.tmp 11)) (T := 3) (v := ?vzz20) rfl rfl rfl rfl (by kernel_rfl) (by kernel_rfl) (by kernel_rfl) (fun _ _ _ h => h) (by rfl) ?hzz20 hHeld ?rzz20
          case hzz20 => (intro w' hSw; (try dsimp only at hSw); go_simp <;> with_reducible rfl)
          try simp only [Act.put, List.setIfInBounds_toArray, List.set_cons_zero, List.set_cons_succ]
          refine take_op (i := 3) (d := 64) (OP := Op.indexAddr 22 (Operand.tmp 62) (Operand.tmp 63)) (T := 0) (v := ?vzz21) rfl rfl rfl rfl (by kernel_rfl) (by kernel_rfl) (by kernel_rfl) (fun _ _ _ h => h) (by rfl) ?hzz21 hHeld ?rzz21
          case hzz21 => (intro w' hSw; (try dsimp only at hSw); go_simp <;> with_reducible rfl)
          try simp only [Act.put, List.setIfInBounds_toArray, List.set_cons_zero, List.set_cons_succ]
          refine take_op (i := 4) (d := 65) (OP := Op.load 9 (Operand.tmp 64)) (T := 9) (v := ?vzz22) rfl rfl rfl rfl (by kernel_rfl) (by kernel_rfl) (by kernel_rfl) (fun _ _ _ h => h) (by rfl) ?hzz22 hHeld ?rzz22
          case hzz22 => (intro w' hSw; (try dsimp only at hSw); go_simp <;> with_reducible rfl)
          try simp only [Act.put, List.setIfInBounds_toArray, List.set_cons_zero, List.set_cons_succ]
          refine take_op (i := 6) (d := 67) (OP := Op.load 38 (Operand.tmp 14)) (T := 38) (v := ?vzz23) rfl rfl rfl rfl (by kernel_rfl) (by kernel_rfl) (by kernel_rfl) (fun _ _ _ h => h) (by rfl) ?hzz23 hHeld ?rzz23
          case hzz23 => (intro w' hSw; (try dsimp only at hSw); go_simp <;> with_reducible rfl)
          try simp only [Act.put, List.setIfInBounds_toArray, List.set_cons_zero, List.set_cons_succ]
          refine call_op (i := 5) (d := 66) (OP := Op.call { callee := Callee.value (Operand.func 12), args := #[Operand.tmp 61, Operand.tmp 65], argTypes := #[29, 9] }) (T := 38) (f := 12) (args := #[.agg #[.pointer pu], .string k]) rfl rfl rfl rfl (by kernel_rfl) (by rfl) (by go_simp) ?_
          refine (hgu _ qd.2.2.2.2.2.2.out).mono ?_
          rintro e ze ⟨rfl, bze⟩
          have qze : ze.cell? ⟨Y0, 0, none⟩ = some (.pointer pu) ∧ ze.cell? ⟨lb, lo + i, none⟩ = some (.string k) ∧ ze.cell? ⟨Bw, 0, none⟩ = some (.int .i64 p1) ∧ ze.cell? ⟨Bw, 1, none⟩ = some (.bool true) ∧ ze.cell? ⟨Bp, 1, none⟩ = some (.bool true) ∧ ze.cell? ⟨Bs, 1, none⟩ = some (.bool s2') ∧ Hid (Below wL.heap.size wL ze) := ⟨cell_stays qd.1 bze, cell_stays qd.2.1 bze, cell_stays qd.2.2.1 bze, cell_stays qd.2.2.2.1 bze, cell_stays qd.2.2.2.2.1 bze, cell_stays qd.2.2.2.2.2.1 bze, hide (qd.2.2.2.2.2.2.out.trans (bze.mono qd.2.2.2.2.2.2.out.size))⟩
          refine ⟨_, rfl, qze, ?_⟩
          replace hHeld := qze
          try simp only [Act.put, List.setIfInBounds_toArray, List.set_cons_zero, List.set_cons_succ]
          refine take_op (i := 7) (d := 68) (OP := Op.binOp BinOp.neq 38 (Operand.tmp 66) (Operand.tmp 67) 38) (T := 4) (v := ?vzz24) rfl rfl rfl rfl (by kernel_rfl) (by kernel_rfl) (by kernel_rfl) (fun _ _ _ h => h) (by rfl) ?hzz24 hHeld ?rzz24
          case hzz24 => (intro w' hSw; (try dsimp only at hSw); go_simp <;> with_reducible rfl)
          try simp only [Act.put, List.setIfInBounds_toArray, List.set_cons_zero, List.set_cons_succ]
          refine wpAnyH_done (by kernel_rfl) ?_ _
          have tp := qze.2.2.2.2.1
          have ts := qze.2.2.2.2.2.1
          have HBE := qze.2.2.2.2.2.2
          clear hHeld qt qd qze hgu nes
          cases s2'
          · go_wp2
            go_roundw
            case rel => exact ⟨i + 1, c + 1, by omega, by omega, by go_num, by go_num, hide (by rw [List.take_add_one, HKK.out]; exact HCO.out.more ⟨HONE.out.trans (by simp), HONC.out (HONE.out.trans (by simp))⟩), HBE⟩
            case measure => simp [intOf]; omega
          · go_wp2
            go_roundw
            case rel => exact ⟨i + 1, c, by omega, by omega, by go_num, rfl, hide (by rw [List.take_add_one, HKK.out]; exact HCO.out.same (fun h => by have h1 := HONE.out; rw [h.1] at h1; simp at h1)), HBE⟩
            case measure => simp [intOf]; omega
      · as_aux_lemma =>
        have ei : i = N := by omega
        subst ei
        have y1 : decide ((i : Int) < (i : Int)) = false := by simp
        have hcount : Counted (oneB a b) L c := by have := HCO.out; rw [HN.out, List.take_length] at this; exact this
        have HC := hide (two_count HX.out.1 (by rw [← HLL.out]; exact hcount))
        have d1 := cell_stays HCL.out.1 HB.out
        have d2 := cell_stays HCL.out.2.1 HB.out
        have hcm := changes_any pa' pb' wr
        obtain ⟨wC, hwC⟩ : ∃ q, q = (wr.alloc (.cells #[.pointer pa'] 29)).alloc (.cells #[.pointer pb'] 29) := ⟨_, rfl⟩
        obtain ⟨ca, cb⟩ := new2 wr (.cells #[.pointer pa'] 29) (.cells #[.pointer pb'] 29)
        rw [← hwC] at hcm ca cb
        have bC : Below wr.heap.size wr wC := by rw [hwC]; exact ((Below.refl _ wr).alloc (Nat.le_refl _) _).alloc (by simp) _
        obtain ⟨La, hLa⟩ : ∃ q, q = wr.heap.size := ⟨_, rfl⟩
        obtain ⟨Lb, hLb⟩ : ∃ q, q = wr.heap.size + 1 := ⟨_, rfl⟩
        rw [← hLb] at hcm cb
        rw [← hLa] at hcm ca
        have bLC : Below wL.heap.size wL wC := HB.out.trans (bC.mono HB.out.size)
        have cLa : wC.cell? ⟨La, 0, none⟩ = some (.pointer pa') := (cell_of_row _ _ 0 _ 29 (0, 0) ca).trans rfl
        have cLb : wC.cell? ⟨Lb, 0, none⟩ = some (.pointer pb') := (cell_of_row _ _ 0 _ 29 (0, 0) cb).trans rfl
        have HKL : Hid (∀ j, KC a b La Lb j → j < wC.heap.size) := hide (fun j hj => by
          rcases hj with rfl | rfl | hj | hj
          · exact World.block_lt_of_cell? wC _ cLa
          · exact World.block_lt_of_cell? wC _ cLb
          · exact (In.below bLC H6.out.1.ia).blk_lt hj
          · exact (In.below bLC H6.out.1.ib).blk_lt hj)
        have HFA : Hid (∀ W, Below wC.heap.size wC W → W.cell? ⟨X1, 0, none⟩ = some (.pointer pa') ∧ W.cell? ⟨X2, 0, none⟩ = some (.pointer pb') ∧ W.cell? ⟨Lv, 0, none⟩ = some (.int .i64 leave) ∧ W.heap[Rs]? = some (.cells #[.bool false] 4 (0, 0)) ∧ W.cell? ⟨La, 0, none⟩ = some (.pointer pa') ∧ W.cell? ⟨Lb, 0, none⟩ = some (.pointer pb') ∧ In W a ∧ In W b ∧ Below w.heap.size w W) := hide (fun W hW => by
          have hl : Below wL.heap.size wL W := bLC.trans (hW.mono bLC.size)
          have hrl := (hl.block _ (Array.getElem?_eq_some_iff.1 HR6.out.1).1).trans HR6.out.1
          have hrr := (hl.block _ (Array.getElem?_eq_some_iff.1 HR6.out.2.1).1).trans HR6.out.2.1
          exact ⟨cell_stays HCL.out.1 hl, cell_stays HCL.out.2.1 hl, (cell_of_row _ _ 0 _ 3 (0, 0) hrl).trans rfl, hrr, cell_stays cLa hW, cell_stays cLb hW, In.below hl H6.out.1.ia, In.below hl H6.out.1.ib, H6.out.2.2.trans (hl.mono H6.out.2.2.size)⟩)
        have HSZ : Hid (X1 < wC.heap.size ∧ X2 < wC.heap.size ∧ Lv < wC.heap.size ∧ Rs < wC.heap.size ∧ w.heap.size ≤ wC.heap.size ∧ w.heap.size ≤ Rs) := hide (by
          obtain ⟨f1, f2, f3, f4, -, -, -, -, f9⟩ := HFA.out wC (Below.refl _ _)
          exact ⟨World.block_lt_of_cell? wC _ f1, World.block_lt_of_cell? wC _ f2, World.block_lt_of_cell? wC _ f3, (Array.getElem?_eq_some_iff.1 f4).1, f9.size, HR6.out.2.2.2.2⟩)
        have HB0 : Hid (Below wC.heap.size wC wC) := hide (Below.refl _ _)
        have hfn := fun f x y W => fn_nil54 f x y W
        clear hcount hwC ca cb bC hLa hLb bLC cLa cLb HCO HB
        go_wp2_with (go_at_call 22; refine hcm.mono ?_; rintro e w' ⟨rfl, hw'⟩; obtain rfl : wC = w' := hw'.symm; clear hw'; dsimp only)
        clear hcm d1 d2 hfn
        refine wp_loop_rounds 3 ?_
        rw [rounds_succ]
        go_wp2
        obtain ⟨wA0, hwA⟩ : ∃ q, q = ((wC.alloc (.cells #[.int .i64 0] 3)).alloc (.cells #[.int .i64 0] 3)).alloc (.cells #[.string ⟨#[]⟩] 9) := ⟨_, rfl⟩
        obtain ⟨g0, g1, g2, bA⟩ := new3 wC (.cells #[.int .i64 0] 3) (.cells #[.int .i64 0] 3) (.cells #[.string ⟨#[]⟩] 9)
        rw [← hwA] at g0 g1 g2 bA ⊢
        have hsA : wA0.heap.size = wC.heap.size + 3 := by rw [hwA]; simp
        obtain ⟨Tb0, hTb⟩ : ∃ q, q = wC.heap.size := ⟨_, rfl⟩
        obtain ⟨Nb0, hNb⟩ : ∃ q, q = wC.heap.size + 1 := ⟨_, rfl⟩
        obtain ⟨Lb0, hLbx⟩ : ∃ q, q = wC.heap.size + 1 + 1 := ⟨_, rfl⟩
        rw [← hLbx] at g2 ⊢
        rw [← hNb] at g1 ⊢
        rw [← hTb] at g0 ⊢
        have bCA : Below wC.heap.size wC wA0 := HB0.out.trans (bA.mono HB0.out.size)
        have hBC : wC.heap.size ≤ wC.heap.size := HB0.out.size
        obtain ⟨f1, f2, f3, f4, f5, f6, f7, f8, f9⟩ := HFA.out wA0 bCA
        have hit := iter_chg a b La Lb xs wA0 f7 f8 H6.out.1.sa H6.out.1.sb H6.out.1.nab (by rw [HP.out.2.1]; exact f5) (by rw [HP.out.2.2.1]; exact f6) HX.out.1
        have hI0 : TI wA0 Nb0 Lb0 xs 0 wA0 := ⟨Only.refl _ _, g1, g2⟩
        have g0c : wA0.cell? ⟨Tb0, 0, none⟩ = some (.int .i64 0) := (cell_of_row _ _ 0 _ 3 (0, 0) g0).trans rfl
        have HSA0 : Hid (Tb0 < wA0.heap.size ∧ Nb0 < wA0.heap.size ∧ Lb0 < wA0.heap.size ∧ (Tb0 ≠ Nb0 ∧ Tb0 ≠ Lb0) ∧ Nb0 ≠ Lb0 ∧ wC.heap.size ≤ Tb0 ∧ wC.heap.size ≤ Nb0 ∧ wC.heap.size ≤ Lb0 ∧ wC.heap.size ≤ Tb0 ∧ wC.heap.size ≤ Nb0 ∧ wC.heap.size ≤ Lb0 ∧ wC.heap.size ≤ wA0.heap.size) := hide (by omega)
        have HG0 := hide (And.intro g0c (And.intro f1 (And.intro f2 (And.intro f3 (And.intro f4 (And.intro f7 (And.intro f8 (And.intro bCA bA))))))))
        clear g0 g1 g2 bA hsA hTb hNb hLbx bCA hBC f1 f2 f3 f4 f5 f6 f7 f8 f9 g0c hwA
        refine range_itb (Q := _) 4 37 enters37 _ xs encC _ hit rfl (fun _ _ => rfl) (fun j hj => by have := HKL.out j hj; have := HSA0.out; omega) (fun j => j = Nb0 ∨ j = Lb0) (fun j e hj => by have := HKL.out j hj; have := HSA0.out; omega) (fun j e => by have := HSA0.out; omega)
          (TI wA0 Nb0 Lb0 xs) (fun W => ((0 : Nat) = 0) ∧ ∃ k : Nat, (k : Int) = leave ∧ TI wA0 Nb0 Lb0 xs k W) (fun W => ∃ k : Nat, (k = xs.length ∨ ((0 : Nat) = 0 ∧ (k : Int) = leave)) ∧ TI wA0 Nb0 Lb0 xs k W)
          (fun k W W' hi ho => hi.other HSA0.out.2.1 HSA0.out.2.2.1 ho) (fun W W' hi ho => ⟨hi.1, hi.2.choose, hi.2.choose_spec.1, hi.2.choose_spec.2.other HSA0.out.2.1 HSA0.out.2.2.1 ho⟩) hI0 ?hround0 (fun _ _ h => h) (fun W h => ⟨_, .inl rfl, h⟩) (fun W h => ⟨_, .inr ⟨h.1, h.2.choose_spec.1⟩, h.2.choose_spec.2⟩) ?hdone0
        case hround0 =>
          as_aux_lemma =>
            rintro n ⟨k, ⟨p1, p2⟩, ⟨q1, q2⟩⟩ W hxc hi hSame hsz
            clear hit hI0 hSame
            dsimp only [encC]
            gi_wp2
            obtain ⟨W1, hW1⟩ : ∃ W1, W1 = W.alloc (.cells #[.int .i64 p1, .bool p2, .int .i64 q1, .bool q2] 56) := ⟨_, rfl⟩
            have r1 := heap_alloc_new W (.cells #[.int .i64 p1, .bool p2, .int .i64 q1, .bool q2] 56)
            have b1 : Below W.heap.size W W1 := by rw [hW1]; exact (Below.refl _ W).alloc (Nat.le_refl _) _
            rw [← hW1] at r1 ⊢
            refine ⟨below_only b1, fun W2 ho2 => ?_⟩
            have hi2 := (hi.below b1).other HSA0.out.2.1 HSA0.out.2.2.1 ho2
            have r2 := (ho2.block _ (Array.getElem?_eq_some_iff.1 r1).1 (by omega)).trans r1
            obtain ⟨BP, hBP⟩ : ∃ B, B = W.heap.size := ⟨_, rfl⟩
            rw [← hBP] at r2 ⊢
            clear hBP hW1 b1 r1 hsz ho2 hi
            have kb0 : W2.cell? ⟨BP, 0, none⟩ = some (.int .i64 p1) := (cell_of_row _ _ 0 _ 56 (0, 0) r2).trans rfl
            have kb1 : W2.cell? ⟨BP, 1, none⟩ = some (.bool p2) := (cell_of_row _ _ 1 _ 56 (0, 0) r2).trans rfl
            have kb2 : W2.cell? ⟨BP, 2, none⟩ = some (.int .i64 q1) := (cell_of_row _ _ 2 _ 56 (0, 0) r2).trans rfl
            have kb3 : W2.cell? ⟨BP, 3, none⟩ = some (.bool q2) := (cell_of_row _ _ 3 _ 56 (0, 0) r2).trans rfl
            have t1 := hi2.only.cell HG0.out.2.1 (by have := HSA0.out; have := HSZ.out; simp only; omega)
            have t2 := hi2.only.cell HG0.out.2.2.1 (by have := HSA0.out; have := HSZ.out; simp only; omega)
            have tt := hi2.only.cell HG0.out.1 (by have := HSA0.out; have := HSZ.out; simp only; omega)
            have tl := hi2.only.cell HG0.out.2.2.2.1 (by have := HSA0.out; have := HSZ.out; simp only; omega)
            have nc : W2.cell? ⟨Nb0, 0, none⟩ = some (.int .i64 (n : Int)) := (cell_of_row _ _ 0 _ 3 (0, 0) hi2.n).trans rfl
            have hs := keys_rise (x := (k, (p1, p2), (q1, q2))) (c := n) HX.out.1 hxc
            dsimp only at hs
            have lk : W2.cell? ⟨Lb0, 0, none⟩ = some (.string (lastK xs n)) := (cell_of_row _ _ 0 _ 9 (0, 0) hi2.last).trans rfl
            obtain ⟨s, hsl⟩ : ∃ s, s = lastK xs n := ⟨_, rfl⟩
            rw [← hsl] at hs lk
            have HSL := hide hsl
            clear hsl r2
            obtain ⟨m1, m2, m3⟩ := (HX.out.1.mem (k, (p1, p2), (q1, q2))).1 (List.mem_of_getElem? hxc)
            dsimp only at m1 m2 m3
            have ia : In W2 a := In.over HG0.out.2.2.2.2.2.1 hi2.only (fun j d hb => by have := HKL.out j (.inr (.inr (.inl hb))); have := HSA0.out; omega)
            have ib : In W2 b := In.over HG0.out.2.2.2.2.2.2.1 hi2.only (fun j d hb => by have := HKL.out j (.inr (.inr (.inr hb))); have := HSA0.out; omega)
            have hpa : ∀ W', Below W2.heap.size W2 W' → Calls Try.prog 12 #[.agg #[.pointer pa'], .string k] W' fun e w' => e = .returned (.agg #[.int .i64 p1, .bool p2]) ∧ Below W'.heap.size W' w' := fun W' hW => by
              have := part_any a k W' (In.below hW ia) H6.out.1.sa
              rw [mv_ptr HP.out.2.1, ← m1] at this
              exact this
            have hpb : ∀ W', Below W2.heap.size W2 W' → Calls Try.prog 12 #[.agg #[.pointer pb'], .string k] W' fun e w' => e = .returned (.agg #[.int .i64 q1, .bool q2]) ∧ Below W'.heap.size W' w' := fun W' hW => by
              have := part_any b k W' (In.below hW ib) H6.out.1.sb
              rw [mv_ptr HP.out.2.2.1, ← m2] at this
              exact this
            have nes1 := run_ne38 p1 p1 p2 p2
            have nes2 := run_ne38 q1 q1 q2 q2
            rw [decide_eq_true rfl] at nes1 nes2
            have hne : (p2 == q2) = false := by simpa using m3
            have HI2 := hide hi2
            have HTT := hide (And.intro tt tl)
            have HXC := hide hxc
            have hnb : n ≤ 1000 := by have := (List.getElem?_eq_some_iff.1 hxc).1; have := HX.out.2; omega
            clear m1 m2 m3 ia ib hi2 tt tl hxc
            by_cases hn : 0 < n
            · obtain ⟨hs1, hs2⟩ := hs hn
              have hn1 : (0 : Int) < (n : Int) := by omega
              clear hs
              have q0 : W2.cell? ⟨BP, 0, none⟩ = some (.int .i64 p1) ∧ W2.cell? ⟨BP, 1, none⟩ = some (.bool p2) ∧ W2.cell? ⟨BP, 2, none⟩ = some (.int .i64 q1) ∧ W2.cell? ⟨BP, 3, none⟩ = some (.bool q2) ∧ W2.cell? ⟨X1, 0, none⟩ = some (.pointer pa') ∧ W2.cell? ⟨X2, 0, none⟩ = some (.pointer pb') ∧ W2.cell? ⟨Nb0, 0, none⟩ = some (.int .i64 (n : Int)) ∧ W2.cell? ⟨Lb0, 0, none⟩ = some (.string s) ∧ Hid (Below W2.heap.size W2 W2) := ⟨kb0, kb1, kb2, kb3, t1, t2, nc, lk, hide (Below.refl _ _)⟩
              clear kb0 kb1 kb2 kb3 t1 t2 nc lk
              have qd : W2.drew.cell? ⟨BP, 0, none⟩ = some (.int .i64 p1) ∧ W2.drew.cell? ⟨BP, 1, none⟩ = some (.bool p2) ∧ W2.drew.cell? ⟨BP, 2, none⟩ = some (.int .i64 q1) ∧ W2.drew.cell? ⟨BP, 3, none⟩ = some (.bool q2) ∧ W2.drew.cell? ⟨X1, 0, none⟩ = some (.pointer pa') ∧ W2.drew.cell? ⟨X2, 0, none⟩ = some (.pointer pb') ∧ W2.drew.cell? ⟨Nb0, 0, none⟩ = some (.int .i64 (n : Int)) ∧ W2.drew.cell? ⟨Lb0, 0, none⟩ = some (.string s) ∧ Hid (Below W2.heap.size W2 W2.drew) := ⟨q0.1, q0.2.1, q0.2.2.1, q0.2.2.2.1, q0.2.2.2.2.1, q0.2.2.2.2.2.1, q0.2.2.2.2.2.2.1, q0.2.2.2.2.2.2.2.1, hide (q0.2.2.2.2.2.2.2.2.out.trans ((drew_below W2).mono q0.2.2.2.2.2.2.2.2.out.size))⟩
              gi_wp2
              refine region_in (S := (fun w' => w'.cell? ⟨BP, 0, none⟩ = some (.int .i64 p1) ∧ w'.cell? ⟨BP, 1, none⟩ = some (.bool p2) ∧ w'.cell? ⟨BP, 2, none⟩ = some (.int .i64 q1) ∧ w'.cell? ⟨BP, 3, none⟩ = some (.bool q2) ∧ w'.cell? ⟨X1, 0, none⟩ = some (.pointer pa') ∧ w'.cell? ⟨X2, 0, none⟩ = some (.pointer pb') ∧ w'.cell? ⟨Nb0, 0, none⟩ = some (.int .i64 (n : Int)) ∧ w'.cell? ⟨Lb0, 0, none⟩ = some (.string s) ∧ Hid (Below W2.heap.size W2 w'))) (by kernel_rfl) (by kernel_rfl) (by intro _ _ h; exact h) qd (fun hHeld => ?_)
              try dsimp only at hHeld
              refine take_op (i := 0) (d := 88) (OP := Op.indexAddr 56 (Operand.tmp 20) (Operand.const (Value.int IntKind.i64 0))) (T := 0) (v := ?vzz82) rfl rfl rfl rfl (by kernel_rfl) (by kernel_rfl) (by kernel_rfl) (fun _ _ _ h => h) (by rfl) ?hzz82 hHeld ?rzz82
              case hzz82 => (intro w' hSw; (try dsimp only at hSw); go_simp <;> with_reducible rfl)
              try simp only [Act.put, List.setIfInBounds_toArray, List.set_cons_zero, List.set_cons_succ]
              refine take_op (i := 1) (d := 89) (OP := Op.load 38 (Operand.tmp 88)) (T := 38) (v := ?vzz83) rfl rfl rfl rfl (by kernel_rfl) (by kernel_rfl) (by kernel_rfl) (fun _ _ _ h => h) (by rfl) ?hzz83 hHeld ?rzz83
              case hzz83 => (intro w' hSw; (try dsimp only at hSw); go_simp <;> with_reducible rfl)
              try simp only [Act.put, List.setIfInBounds_toArray, List.set_cons_zero, List.set_cons_succ]
              refine take_op (i := 2) (d := 90) (OP := Op.load 29 (Operand.tmp 6)) (T := 29) (v := ?vzz84) rfl rfl rfl rfl (by kernel_rfl) (by kernel_rfl) (by kernel_rfl) (fun _ _ _ h => h) (by rfl) ?hzz84 hHeld ?rzz84
              case hzz84 => (intro w' hSw; (try dsimp only at hSw); go_simp <;> with_reducible rfl)
              try simp only [Act.put, List.setIfInBounds_toArray, List.set_cons_zero, List.set_cons_succ]
              refine take_op (i := 3) (d := 91) (OP := Op.move (Operand.tmp 19)) (T := 9) (v := ?vzz85) rfl rfl rfl rfl (by kernel_rfl) (by kernel_rfl) (by kernel_rfl) (fun _ _ _ h => h) (by rfl) ?hzz85 hHeld ?rzz85
              case hzz85 => (intro w' hSw; (try dsimp only at hSw); go_simp <;> with_reducible rfl)
              try simp only [Act.put, List.setIfInBounds_toArray, List.set_cons_zero, List.set_cons_succ]
              refine call_op (i := 4) (d := 92) (OP := Op.call { callee := Callee.value (Operand.func 12), args := #[Operand.tmp 90, Operand.tmp 91], argTypes := #[29, 9] }) (T := 38) (f := 12) (args := #[.agg #[.pointer pa'], .string k]) rfl rfl rfl rfl (by kernel_rfl) (by rfl) (by go_simp) ?_
              refine (hpa _ qd.2.2.2.2.2.2.2.2.out).mono ?_
              rintro e z0 ⟨rfl, bz0⟩
              have qz0 : z0.cell? ⟨BP, 0, none⟩ = some (.int .i64 p1) ∧ z0.cell? ⟨BP, 1, none⟩ = some (.bool p2) ∧ z0.cell? ⟨BP, 2, none⟩ = some (.int .i64 q1) ∧ z0.cell? ⟨BP, 3, none⟩ = some (.bool q2) ∧ z0.cell? ⟨X1, 0, none⟩ = some (.pointer pa') ∧ z0.cell? ⟨X2, 0, none⟩ = some (.pointer pb') ∧ z0.cell? ⟨Nb0, 0, none⟩ = some (.int .i64 (n : Int)) ∧ z0.cell? ⟨Lb0, 0, none⟩ = some (.string s) ∧ Hid (Below W2.heap.size W2 z0) := ⟨cell_stays qd.1 bz0, cell_stays qd.2.1 bz0, cell_stays qd.2.2.1 bz0, cell_stays qd.2.2.2.1 bz0, cell_stays qd.2.2.2.2.1 bz0, cell_stays qd.2.2.2.2.2.1 bz0, cell_stays qd.2.2.2.2.2.2.1 bz0, cell_stays qd.2.2.2.2.2.2.2.1 bz0, hide (qd.2.2.2.2.2.2.2.2.out.trans (bz0.mono qd.2.2.2.2.2.2.2.2.out.size))⟩
              refine ⟨_, rfl, qz0, ?_⟩
              replace hHeld := qz0
              try simp only [Act.put, List.setIfInBounds_toArray, List.set_cons_zero, List.set_cons_succ]
              refine take_op (i := 5) (d := 93) (OP := Op.binOp BinOp.neq 38 (Operand.tmp 89) (Operand.tmp 92) 38) (T := 4) (v := ?vzz86) rfl rfl rfl rfl (by kernel_rfl) (by kernel_rfl) (by kernel_rfl) (fun _ _ _ h => h) (by rfl) ?hzz86 hHeld ?rzz86
              case hzz86 => (intro w' hSw; (try dsimp only at hSw); go_simp <;> with_reducible rfl)
              try simp only [Act.put, List.setIfInBounds_toArray, List.set_cons_zero, List.set_cons_succ]
              refine take_op (i := 6) (d := 94) (OP := Op.move (Operand.tmp 93)) (T := 4) (v := ?vzz87) rfl rfl rfl rfl (by kernel_rfl) (by kernel_rfl) (by kernel_rfl) (fun _ _ _ h => h) (by rfl) ?hzz87 hHeld ?rzz87
              case hzz87 => (intro w' hSw; (try dsimp only at hSw); go_simp <;> with_reducible rfl)
              try simp only [Act.put, List.setIfInBounds_toArray, List.set_cons_zero, List.set_cons_succ]
              refine take_op (i := 7) (d := 95) (OP := Op.indexAddr 56 (Operand.tmp 20) (Operand.const (Value.int IntKind.i64 1))) (T := 0) (v := ?vzz88) rfl rfl rfl rfl (by kernel_rfl) (by kernel_rfl) (by kernel_rfl) (fun _ _ _ h => h) (by rfl) ?hzz88 hHeld ?rzz88
              case hzz88 => (intro w' hSw; (try dsimp only at hSw); go_simp <;> with_reducible rfl)
              try simp only [Act.put, List.setIfInBounds_toArray, List.set_cons_zero, List.set_cons_succ]
              refine take_op (i := 8) (d := 96) (OP := Op.load 38 (Operand.tmp 95)) (T := 38) (v := ?vzz89) rfl rfl rfl rfl (by kernel_rfl) (by kernel_rfl) (by kernel_rfl) (fun _ _ _ h => h) (by rfl) ?hzz89 hHeld ?rzz89
              case hzz89 => (intro w' hSw; (try dsimp only at hSw); go_simp <;> with_reducible rfl)
              try simp only [Act.put, List.setIfInBounds_toArray, List.set_cons_zero, List.set_cons_succ]
              refine take_op (i := 9) (d := 97) (OP := Op.load 29 (Operand.tmp 7)) (T := 29) (v := ?vzz90) rfl rfl rfl rfl (by kernel_rfl) (by kernel_rfl) (by kernel_rfl) (fun _ _ _ h => h) (by rfl) ?hzz90 hHeld ?rzz90
              case hzz90 => (intro w' hSw; (try dsimp only at hSw); go_simp <;> with_reducible rfl)
              try simp only [Act.put, List.setIfInBounds_toArray, List.set_cons_zero, List.set_cons_succ]
              refine take_op (i := 10) (d := 98) (OP := Op.move (Operand.tmp 19)) (T := 9) (v := ?vzz91) rfl rfl rfl rfl (by kernel_rfl) (by kernel_rfl) (by kernel_rfl) (fun _ _ _ h => h) (by rfl) ?hzz91 hHeld ?rzz91
              case hzz91 => (intro w' hSw; (try dsimp only at hSw); go_simp <;> with_reducible rfl)
              try simp only [Act.put, List.setIfInBounds_toArray, List.set_cons_zero, List.set_cons_succ]
              refine call_op (i := 11) (d := 99) (OP := Op.call { callee := Callee.value (Operand.func 12), args := #[Operand.tmp 97, Operand.tmp 98], argTypes := #[29, 9] }) (T := 38) (f := 12) (args := #[.agg #[.pointer pb'], .string k]) rfl rfl rfl rfl (by kernel_rfl) (by rfl) (by go_simp) ?_
              refine (hpb _ qz0.2.2.2.2.2.2.2.2.out).mono ?_
              rintro e z1 ⟨rfl, bz1⟩
              have qz1 : z1.cell? ⟨BP, 0, none⟩ = some (.int .i64 p1) ∧ z1.cell? ⟨BP, 1, none⟩ = some (.bool p2) ∧ z1.cell? ⟨BP, 2, none⟩ = some (.int .i64 q1) ∧ z1.cell? ⟨BP, 3, none⟩ = some (.bool q2) ∧ z1.cell? ⟨X1, 0, none⟩ = some (.pointer pa') ∧ z1.cell? ⟨X2, 0, none⟩ = some (.pointer pb') ∧ z1.cell? ⟨Nb0, 0, none⟩ = some (.int .i64 (n : Int)) ∧ z1.cell? ⟨Lb0, 0, none⟩ = some (.string s) ∧ Hid (Below W2.heap.size W2 z1) := ⟨cell_stays qz0.1 bz1, cell_stays qz0.2.1 bz1, cell_stays qz0.2.2.1 bz1, cell_stays qz0.2.2.2.1 bz1, cell_stays qz0.2.2.2.2.1 bz1, cell_stays qz0.2.2.2.2.2.1 bz1, cell_stays qz0.2.2.2.2.2.2.1 bz1, cell_stays qz0.2.2.2.2.2.2.2.1 bz1, hide (qz0.2.2.2.2.2.2.2.2.out.trans (bz1.mono qz0.2.2.2.2.2.2.2.2.out.size))⟩
              refine ⟨_, rfl, qz1, ?_⟩
              replace hHeld := qz1
              try simp only [Act.put, List.setIfInBounds_toArray, List.set_cons_zero, List.set_cons_succ]
              refine take_op (i := 12) (d := 100) (OP := Op.binOp BinOp.neq 38 (Operand.tmp 96) (Operand.tmp 99) 38) (T := 4) (v := ?vzz92) rfl rfl rfl rfl (by kernel_rfl) (by kernel_rfl) (by kernel_rfl) (fun _ _ _ h => h) (by rfl) ?hzz92 hHeld ?rzz92
              case hzz92 => (intro w' hSw; (try dsimp only at hSw); go_simp <;> with_reducible rfl)
              try simp only [Act.put, List.setIfInBounds_toArray, List.set_cons_zero, List.set_cons_succ]
              refine take_op (i := 13) (d := 101) (OP := Op.pick (Operand.tmp 94) (Operand.const (Value.bool true)) (Operand.tmp 100)) (T := 4) (v := ?vzz93) rfl rfl rfl rfl (by kernel_rfl) (by kernel_rfl) (by kernel_rfl) (fun _ _ _ h => h) (by rfl) ?hzz93 hHeld ?rzz93
              case hzz93 => (intro w' hSw; (try dsimp only at hSw); go_simp <;> with_reducible rfl)
              try simp only [Act.put, List.setIfInBounds_toArray, List.set_cons_zero, List.set_cons_succ]
              refine take_op (i := 14) (d := 102) (OP := Op.move (Operand.tmp 101)) (T := 4) (v := ?vzz94) rfl rfl rfl rfl (by kernel_rfl) (by kernel_rfl) (by kernel_rfl) (fun _ _ _ h => h) (by rfl) ?hzz94 hHeld ?rzz94
              case hzz94 => (intro w' hSw; (try dsimp only at hSw); go_simp <;> with_reducible rfl)
              try simp only [Act.put, List.setIfInBounds_toArray, List.set_cons_zero, List.set_cons_succ]
              refine take_op (i := 15) (d := 103) (OP := Op.indexAddr 56 (Operand.tmp 20) (Operand.const (Value.int IntKind.i64 0))) (T := 0) (v := ?vzz95) rfl rfl rfl rfl (by kernel_rfl) (by kernel_rfl) (by kernel_rfl) (fun _ _ _ h => h) (by rfl) ?hzz95 hHeld ?rzz95
              case hzz95 => (intro w' hSw; (try dsimp only at hSw); go_simp <;> with_reducible rfl)
              try simp only [Act.put, List.setIfInBounds_toArray, List.set_cons_zero, List.set_cons_succ]
              refine take_op (i := 16) (d := 104) (OP := Op.fieldAddr 38 (Operand.tmp 103) 1) (T := 0) (v := ?vzz96) rfl rfl rfl rfl (by kernel_rfl) (by kernel_rfl) (by kernel_rfl) (fun _ _ _ h => h) (by rfl) ?hzz96 hHeld ?rzz96
              case hzz96 => (intro w' hSw; (try dsimp only at hSw); go_simp <;> with_reducible rfl)
              try simp only [Act.put, List.setIfInBounds_toArray, List.set_cons_zero, List.set_cons_succ]
              refine take_op (i := 17) (d := 105) (OP := Op.load 4 (Operand.tmp 104)) (T := 4) (v := ?vzz97) rfl rfl rfl rfl (by kernel_rfl) (by kernel_rfl) (by kernel_rfl) (fun _ _ _ h => h) (by rfl) ?hzz97 hHeld ?rzz97
              case hzz97 => (intro w' hSw; (try dsimp only at hSw); go_simp <;> with_reducible rfl)
              try simp only [Act.put, List.setIfInBounds_toArray, List.set_cons_zero, List.set_cons_succ]
              refine take_op (i := 18) (d := 106) (OP := Op.indexAddr 56 (Operand.tmp 20) (Operand.const (Value.int IntKind.i64 1))) (T := 0) (v := ?vzz98) rfl rfl rfl rfl (by kernel_rfl) (by kernel_rfl) (by kernel_rfl) (fun _ _ _ h => h) (by rfl) ?hzz98 hHeld ?rzz98
              case hzz98 => (intro w' hSw; (try dsimp only at hSw); go_simp <;> with_reducible rfl)
              try simp only [Act.put, List.setIfInBounds_toArray, List.set_cons_zero, List.set_cons_succ]
              refine take_op (i := 19) (d := 107) (OP := Op.fieldAddr 38 (Operand.tmp 106) 1) (T := 0) (v := ?vzz99) rfl rfl rfl rfl (by kernel_rfl) (by kernel_rfl) (by kernel_rfl) (fun _ _ _ h => h) (by rfl) ?hzz99 hHeld ?rzz99
              case hzz99 => (intro w' hSw; (try dsimp only at hSw); go_simp <;> with_reducible rfl)
              try simp only [Act.put, List.setIfInBounds_toArray, List.set_cons_zero, List.set_cons_succ]
              refine take_op (i := 20) (d := 108) (OP := Op.load 4 (Operand.tmp 107)) (T := 4) (v := ?vzz100) rfl rfl rfl rfl (by kernel_rfl) (by kernel_rfl) (by kernel_rfl) (fun _ _ _ h => h) (by rfl) ?hzz100 hHeld ?rzz100
              case hzz100 => (intro w' hSw; (try dsimp only at hSw); go_simp <;> with_reducible rfl)
              try simp only [Act.put, List.setIfInBounds_toArray, List.set_cons_zero, List.set_cons_succ]
              refine take_op (i := 21) (d := 109) (OP := Op.binOp BinOp.eql 4 (Operand.tmp 105) (Operand.tmp 108) 4) (T := 4) (v := ?vzz101) rfl rfl rfl rfl (by kernel_rfl) (by kernel_rfl) (by kernel_rfl) (fun _ _ _ h => h) (by rfl) ?hzz101 hHeld ?rzz101
              case hzz101 => (intro w' hSw; (try dsimp only at hSw); go_simp <;> with_reducible rfl)
              try simp only [Act.put, List.setIfInBounds_toArray, List.set_cons_zero, List.set_cons_succ]
              refine take_op (i := 22) (d := 110) (OP := Op.pick (Operand.tmp 102) (Operand.const (Value.bool true)) (Operand.tmp 109)) (T := 4) (v := ?vzz102) rfl rfl rfl rfl (by kernel_rfl) (by kernel_rfl) (by kernel_rfl) (fun _ _ _ h => h) (by rfl) ?hzz102 hHeld ?rzz102
              case hzz102 => (intro w' hSw; (try dsimp only at hSw); go_simp <;> with_reducible rfl)
              try simp only [Act.put, List.setIfInBounds_toArray, List.set_cons_zero, List.set_cons_succ]
              refine take_op (i := 23) (d := 111) (OP := Op.move (Operand.tmp 110)) (T := 4) (v := ?vzz103) rfl rfl rfl rfl (by kernel_rfl) (by kernel_rfl) (by kernel_rfl) (fun _ _ _ h => h) (by rfl) ?hzz103 hHeld ?rzz103
              case hzz103 => (intro w' hSw; (try dsimp only at hSw); go_simp <;> with_reducible rfl)
              try simp only [Act.put, List.setIfInBounds_toArray, List.set_cons_zero, List.set_cons_succ]
              refine take_op (i := 24) (d := 112) (OP := Op.load 3 (Operand.tmp 17)) (T := 3) (v := ?vzz104) rfl rfl rfl rfl (by kernel_rfl) (by kernel_rfl) (by kernel_rfl) (fun _ _ _ h => h) (by rfl) ?hzz104 hHeld ?rzz104
              case hzz104 => (intro w' hSw; (try dsimp only at hSw); go_simp <;> with_reducible rfl)
              try simp only [Act.put, List.setIfInBounds_toArray, List.set_cons_zero, List.set_cons_succ]
              refine take_op (i := 25) (d := 113) (OP := Op.binOp BinOp.gtr 3 (Operand.tmp 112) (Operand.const (Value.int IntKind.i64 0)) 3) (T := 4) (v := ?vzz105) rfl rfl rfl rfl (by kernel_rfl) (by kernel_rfl) (by kernel_rfl) (fun _ _ _ h => h) (by rfl) ?hzz105 hHeld ?rzz105
              case hzz105 => (intro w' hSw; (try dsimp only at hSw); go_simp <;> with_reducible rfl)
              try simp only [Act.put, List.setIfInBounds_toArray, List.set_cons_zero, List.set_cons_succ]
              refine take_op (i := 26) (d := 114) (OP := Op.move (Operand.tmp 113)) (T := 4) (v := ?vzz106) rfl rfl rfl rfl (by kernel_rfl) (by kernel_rfl) (by kernel_rfl) (fun _ _ _ h => h) (by rfl) ?hzz106 hHeld ?rzz106
              case hzz106 => (intro w' hSw; (try dsimp only at hSw); go_simp <;> with_reducible rfl)
              try simp only [Act.put, List.setIfInBounds_toArray, List.set_cons_zero, List.set_cons_succ]
              refine take_op (i := 27) (d := 115) (OP := Op.move (Operand.tmp 19)) (T := 9) (v := ?vzz107) rfl rfl rfl rfl (by kernel_rfl) (by kernel_rfl) (by kernel_rfl) (fun _ _ _ h => h) (by rfl) ?hzz107 hHeld ?rzz107
              case hzz107 => (intro w' hSw; (try dsimp only at hSw); go_simp <;> with_reducible rfl)
              try simp only [Act.put, List.setIfInBounds_toArray, List.set_cons_zero, List.set_cons_succ]
              refine take_op (i := 28) (d := 116) (OP := Op.load 9 (Operand.tmp 18)) (T := 9) (v := ?vzz108) rfl rfl rfl rfl (by kernel_rfl) (by kernel_rfl) (by kernel_rfl) (fun _ _ _ h => h) (by rfl) ?hzz108 hHeld ?rzz108
              case hzz108 => (intro w' hSw; (try dsimp only at hSw); go_simp <;> with_reducible rfl)
              try simp only [Act.put, List.setIfInBounds_toArray, List.set_cons_zero, List.set_cons_succ]
              refine take_op (i := 29) (d := 117) (OP := Op.binOp BinOp.leq 9 (Operand.tmp 115) (Operand.tmp 116) 9) (T := 4) (v := ?vzz109) rfl rfl rfl rfl (by kernel_rfl) (by kernel_rfl) (by kernel_rfl) (fun _ _ _ h => h) (by rfl) ?hzz109 hHeld ?rzz109
              case hzz109 => (intro w' hSw; (try dsimp only at hSw); go_simp <;> with_reducible rfl)
              try simp only [Act.put, List.setIfInBounds_toArray, List.set_cons_zero, List.set_cons_succ]
              refine take_op (i := 30) (d := 118) (OP := Op.pick (Operand.tmp 114) (Operand.tmp 117) (Operand.const (Value.bool false))) (T := 4) (v := ?vzz110) rfl rfl rfl rfl (by kernel_rfl) (by kernel_rfl) (by kernel_rfl) (fun _ _ _ h => h) (by rfl) ?hzz110 hHeld ?rzz110
              case hzz110 => (intro w' hSw; (try dsimp only at hSw); go_simp <;> with_reducible rfl)
              try simp only [Act.put, List.setIfInBounds_toArray, List.set_cons_zero, List.set_cons_succ]
              refine take_op (i := 31) (d := 119) (OP := Op.pick (Operand.tmp 111) (Operand.const (Value.bool true)) (Operand.tmp 118)) (T := 4) (v := ?vzz111) rfl rfl rfl rfl (by kernel_rfl) (by kernel_rfl) (by kernel_rfl) (fun _ _ _ h => h) (by rfl) ?hzz111 hHeld ?rzz111
              case hzz111 => (intro w' hSw; (try dsimp only at hSw); go_simp <;> with_reducible rfl)
              try simp only [Act.put, List.setIfInBounds_toArray, List.set_cons_zero, List.set_cons_succ]
              refine wpAnyH_done (by kernel_rfl) ?_ _
              have HBZ := qz1.2.2.2.2.2.2.2.2
              clear hHeld qd q0 qz0 qz1 bz0 bz1 hpa hpb nes1 nes2 hne
              obtain ⟨⟨e1, e2, e3, e4⟩, e5, hO, hT⟩ := HI2.out.step (Z := z1) HSA0.out.2.2.2.2.1 HXC.out HBZ.out
              dsimp only at e1 e2 e3 e4 e5 hO hT
              rw [← HSL.out] at e1
              have hO2 := hO.cell (HTT.out.1) (by have := HSA0.out; simp only; omega)
              have hO3 := hO.cell (HTT.out.2) (by have := HSA0.out; have := HSZ.out; simp only; omega)
              have HC2 := hide (And.intro hO hT)
              clear hO hT HBZ
              by_cases hlv : ((n : Int) + 1) = leave
              · have d1 : (((n : Int) + 1) == leave) = true := by simpa using hlv
                have HL := hide hlv
                clear hlv
                gi_wp2
                exact ⟨HC2.out.1, rfl, by first | trivial | rfl, n + 1, by have := HL.out; omega, HC2.out.2⟩
              · have d1 : (((n : Int) + 1) == leave) = false := by simpa using hlv
                clear hlv
                gi_wp2
                exact HC2.out
            · have hn1 : ¬ (0 : Int) < (n : Int) := by omega
              clear hs
              have q0 : W2.cell? ⟨BP, 0, none⟩ = some (.int .i64 p1) ∧ W2.cell? ⟨BP, 1, none⟩ = some (.bool p2) ∧ W2.cell? ⟨BP, 2, none⟩ = some (.int .i64 q1) ∧ W2.cell? ⟨BP, 3, none⟩ = some (.bool q2) ∧ W2.cell? ⟨X1, 0, none⟩ = some (.pointer pa') ∧ W2.cell? ⟨X2, 0, none⟩ = some (.pointer pb') ∧ W2.cell? ⟨Nb0, 0, none⟩ = some (.int .i64 (n : Int)) ∧ W2.cell? ⟨Lb0, 0, none⟩ = some (.string s) ∧ Hid (Below W2.heap.size W2 W2) := ⟨kb0, kb1, kb2, kb3, t1, t2, nc, lk, hide (Below.refl _ _)⟩
              clear kb0 kb1 kb2 kb3 t1 t2 nc lk
              have qd : W2.drew.cell? ⟨BP, 0, none⟩ = some (.int .i64 p1) ∧ W2.drew.cell? ⟨BP, 1, none⟩ = some (.bool p2) ∧ W2.drew.cell? ⟨BP, 2, none⟩ = some (.int .i64 q1) ∧ W2.drew.cell? ⟨BP, 3, none⟩ = some (.bool q2) ∧ W2.drew.cell? ⟨X1, 0, none⟩ = some (.pointer pa') ∧ W2.drew.cell? ⟨X2, 0, none⟩ = some (.pointer pb') ∧ W2.drew.cell? ⟨Nb0, 0, none⟩ = some (.int .i64 (n : Int)) ∧ W2.drew.cell? ⟨Lb0, 0, none⟩ = some (.string s) ∧ Hid (Below W2.heap.size W2 W2.drew) := ⟨q0.1, q0.2.1, q0.2.2.1, q0.2.2.2.1, q0.2.2.2.2.1, q0.2.2.2.2.2.1, q0.2.2.2.2.2.2.1, q0.2.2.2.2.2.2.2.1, hide (q0.2.2.2.2.2.2.2.2.out.trans ((drew_below W2).mono q0.2.2.2.2.2.2.2.2.out.size))⟩
              gi_wp2
              refine region_in (S := (fun w' => w'.cell? ⟨BP, 0, none⟩ = some (.int .i64 p1) ∧ w'.cell? ⟨BP, 1, none⟩ = some (.bool p2) ∧ w'.cell? ⟨BP, 2, none⟩ = some (.int .i64 q1) ∧ w'.cell? ⟨BP, 3, none⟩ = some (.bool q2) ∧ w'.cell? ⟨X1, 0, none⟩ = some (.pointer pa') ∧ w'.cell? ⟨X2, 0, none⟩ = some (.pointer pb') ∧ w'.cell? ⟨Nb0, 0, none⟩ = some (.int .i64 (n : Int)) ∧ w'.cell? ⟨Lb0, 0, none⟩ = some (.string s) ∧ Hid (Below W2.heap.size W2 w'))) (by kernel_rfl) (by kernel_rfl) (by intro _ _ h; exact h) qd (fun hHeld => ?_)
              try dsimp only at hHeld
              refine take_op (i := 0) (d := 88) (OP := Op.indexAddr 56 (Operand.tmp 20) (Operand.const (Value.int IntKind.i64 0))) (T := 0) (v := ?vzz112) rfl rfl rfl rfl (by kernel_rfl) (by kernel_rfl) (by kernel_rfl) (fun _ _ _ h => h) (by rfl) ?hzz112 hHeld ?rzz112
              case hzz112 => (intro w' hSw; (try dsimp only at hSw); go_simp <;> with_reducible rfl)
              try simp only [Act.put, List.setIfInBounds_toArray, List.set_cons_zero, List.set_cons_succ]
              refine take_op (i := 1) (d := 89) (OP := Op.load 38 (Operand.tmp 88)) (T := 38) (v := ?vzz113) rfl rfl rfl rfl (by kernel_rfl) (by kernel_rfl) (by kernel_rfl) (fun _ _ _ h => h) (by rfl) ?hzz113 hHeld ?rzz113
              case hzz113 => (intro w' hSw; (try dsimp only at hSw); go_simp <;> with_reducible rfl)
              try simp only [Act.put, List.setIfInBounds_toArray, List.set_cons_zero, List.set_cons_succ]
              refine take_op (i := 2) (d := 90) (OP := Op.load 29 (Operand.tmp 6)) (T := 29) (v := ?vzz114) rfl rfl rfl rfl (by kernel_rfl) (by kernel_rfl) (by kernel_rfl) (fun _ _ _ h => h) (by rfl) ?hzz114 hHeld ?rzz114
              case hzz114 => (intro w' hSw; (try dsimp only at hSw); go_simp <;> with_reducible rfl)
              try simp only [Act.put, List.setIfInBounds_toArray, List.set_cons_zero, List.set_cons_succ]
              refine take_op (i := 3) (d := 91) (OP := Op.move (Operand.tmp 19)) (T := 9) (v := ?vzz115) rfl rfl rfl rfl (by kernel_rfl) (by kernel_rfl) (by kernel_rfl) (fun _ _ _ h => h) (by rfl) ?hzz115 hHeld ?rzz115
              case hzz115 => (intro w' hSw; (try dsimp only at hSw); go_simp <;> with_reducible rfl)
              try simp only [Act.put, List.setIfInBounds_toArray, List.set_cons_zero, List.set_cons_succ]
              refine call_op (i := 4) (d := 92) (OP := Op.call { callee := Callee.value (Operand.func 12), args := #[Operand.tmp 90, Operand.tmp 91], argTypes := #[29, 9] }) (T := 38) (f := 12) (args := #[.agg #[.pointer pa'], .string k]) rfl rfl rfl rfl (by kernel_rfl) (by rfl) (by go_simp) ?_
              refine (hpa _ qd.2.2.2.2.2.2.2.2.out).mono ?_
              rintro e z0 ⟨rfl, bz0⟩
              have qz0 : z0.cell? ⟨BP, 0, none⟩ = some (.int .i64 p1) ∧ z0.cell? ⟨BP, 1, none⟩ = some (.bool p2) ∧ z0.cell? ⟨BP, 2, none⟩ = some (.int .i64 q1) ∧ z0.cell? ⟨BP, 3, none⟩ = some (.bool q2) ∧ z0.cell? ⟨X1, 0, none⟩ = some (.pointer pa') ∧ z0.cell? ⟨X2, 0, none⟩ = some (.pointer pb') ∧ z0.cell? ⟨Nb0, 0, none⟩ = some (.int .i64 (n : Int)) ∧ z0.cell? ⟨Lb0, 0, none⟩ = some (.string s) ∧ Hid (Below W2.heap.size W2 z0) := ⟨cell_stays qd.1 bz0, cell_stays qd.2.1 bz0, cell_stays qd.2.2.1 bz0, cell_stays qd.2.2.2.1 bz0, cell_stays qd.2.2.2.2.1 bz0, cell_stays qd.2.2.2.2.2.1 bz0, cell_stays qd.2.2.2.2.2.2.1 bz0, cell_stays qd.2.2.2.2.2.2.2.1 bz0, hide (qd.2.2.2.2.2.2.2.2.out.trans (bz0.mono qd.2.2.2.2.2.2.2.2.out.size))⟩
              refine ⟨_, rfl, qz0, ?_⟩
              replace hHeld := qz0
              try simp only [Act.put, List.setIfInBounds_toArray, List.set_cons_zero, List.set_cons_succ]
              refine take_op (i := 5) (d := 93) (OP := Op.binOp BinOp.neq 38 (Operand.tmp 89) (Operand.tmp 92) 38) (T := 4) (v := ?vzz116) rfl rfl rfl rfl (by kernel_rfl) (by kernel_rfl) (by kernel_rfl) (fun _ _ _ h => h) (by rfl) ?hzz116 hHeld ?rzz116
              case hzz116 => (intro w' hSw; (try dsimp only at hSw); go_simp <;> with_reducible rfl)
              try simp only [Act.put, List.setIfInBounds_toArray, List.set_cons_zero, List.set_cons_succ]
              refine take_op (i := 6) (d := 94) (OP := Op.move (Operand.tmp 93)) (T := 4) (v := ?vzz117) rfl rfl rfl rfl (by kernel_rfl) (by kernel_rfl) (by kernel_rfl) (fun _ _ _ h => h) (by rfl) ?hzz117 hHeld ?rzz117
              case hzz117 => (intro w' hSw; (try dsimp only at hSw); go_simp <;> with_reducible rfl)
              try simp only [Act.put, List.setIfInBounds_toArray, List.set_cons_zero, List.set_cons_succ]
              refine take_op (i := 7) (d := 95) (OP := Op.indexAddr 56 (Operand.tmp 20) (Operand.const (Value.int IntKind.i64 1))) (T := 0) (v := ?vzz118) rfl rfl rfl rfl (by kernel_rfl) (by kernel_rfl) (by kernel_rfl) (fun _ _ _ h => h) (by rfl) ?hzz118 hHeld ?rzz118
              case hzz118 => (intro w' hSw; (try dsimp only at hSw); go_simp <;> with_reducible rfl)
              try simp only [Act.put, List.setIfInBounds_toArray, List.set_cons_zero, List.set_cons_succ]
              refine take_op (i := 8) (d := 96) (OP := Op.load 38 (Operand.tmp 95)) (T := 38) (v := ?vzz119) rfl rfl rfl rfl (by kernel_rfl) (by kernel_rfl) (by kernel_rfl) (fun _ _ _ h => h) (by rfl) ?hzz119 hHeld ?rzz119
              case hzz119 => (intro w' hSw; (try dsimp only at hSw); go_simp <;> with_reducible rfl)
              try simp only [Act.put, List.setIfInBounds_toArray, List.set_cons_zero, List.set_cons_succ]
              refine take_op (i := 9) (d := 97) (OP := Op.load 29 (Operand.tmp 7)) (T := 29) (v := ?vzz120) rfl rfl rfl rfl (by kernel_rfl) (by kernel_rfl) (by kernel_rfl) (fun _ _ _ h => h) (by rfl) ?hzz120 hHeld ?rzz120
              case hzz120 => (intro w' hSw; (try dsimp only at hSw); go_simp <;> with_reducible rfl)
              try simp only [Act.put, List.setIfInBounds_toArray, List.set_cons_zero, List.set_cons_succ]
              refine take_op (i := 10) (d := 98) (OP := Op.move (Operand.tmp 19)) (T := 9) (v := ?vzz121) rfl rfl rfl rfl (by kernel_rfl) (by kernel_rfl) (by kernel_rfl) (fun _ _ _ h => h) (by rfl) ?hzz121 hHeld ?rzz121
              case hzz121 => (intro w' hSw; (try dsimp only at hSw); go_simp <;> with_reducible rfl)
              try simp only [Act.put, List.setIfInBounds_toArray, List.set_cons_zero, List.set_cons_succ]
              refine call_op (i := 11) (d := 99) (OP := Op.call { callee := Callee.value (Operand.func 12), args := #[Operand.tmp 97, Operand.tmp 98], argTypes := #[29, 9] }) (T := 38) (f := 12) (args := #[.agg #[.pointer pb'], .string k]) rfl rfl rfl rfl (by kernel_rfl) (by rfl) (by go_simp) ?_
              refine (hpb _ qz0.2.2.2.2.2.2.2.2.out).mono ?_
              rintro e z1 ⟨rfl, bz1⟩
              have qz1 : z1.cell? ⟨BP, 0, none⟩ = some (.int .i64 p1) ∧ z1.cell? ⟨BP, 1, none⟩ = some (.bool p2) ∧ z1.cell? ⟨BP, 2, none⟩ = some (.int .i64 q1) ∧ z1.cell? ⟨BP, 3, none⟩ = some (.bool q2) ∧ z1.cell? ⟨X1, 0, none⟩ = some (.pointer pa') ∧ z1.cell? ⟨X2, 0, none⟩ = some (.pointer pb') ∧ z1.cell? ⟨Nb0, 0, none⟩ = some (.int .i64 (n : Int)) ∧ z1.cell? ⟨Lb0, 0, none⟩ = some (.string s) ∧ Hid (Below W2.heap.size W2 z1) := ⟨cell_stays qz0.1 bz1, cell_stays qz0.2.1 bz1, cell_stays qz0.2.2.1 bz1, cell_stays qz0.2.2.2.1 bz1, cell_stays qz0.2.2.2.2.1 bz1, cell_stays qz0.2.2.2.2.2.1 bz1, cell_stays qz0.2.2.2.2.2.2.1 bz1, cell_stays qz0.2.2.2.2.2.2.2.1 bz1, hide (qz0.2.2.2.2.2.2.2.2.out.trans (bz1.mono qz0.2.2.2.2.2.2.2.2.out.size))⟩
              refine ⟨_, rfl, qz1, ?_⟩
              replace hHeld := qz1
              try simp only [Act.put, List.setIfInBounds_toArray, List.set_cons_zero, List.set_cons_succ]
              refine take_op (i := 12) (d := 100) (OP := Op.binOp BinOp.neq 38 (Operand.tmp 96) (Operand.tmp 99) 38) (T := 4) (v := ?vzz122) rfl rfl rfl rfl (by kernel_rfl) (by kernel_rfl) (by kernel_rfl) (fun _ _ _ h => h) (by rfl) ?hzz122 hHeld ?rzz122
              case hzz122 => (intro w' hSw; (try dsimp only at hSw); go_simp <;> with_reducible rfl)
              try simp only [Act.put, List.setIfInBounds_toArray, List.set_cons_zero, List.set_cons_succ]
              refine take_op (i := 13) (d := 101) (OP := Op.pick (Operand.tmp 94) (Operand.const (Value.bool true)) (Operand.tmp 100)) (T := 4) (v := ?vzz123) rfl rfl rfl rfl (by kernel_rfl) (by kernel_rfl) (by kernel_rfl) (fun _ _ _ h => h) (by rfl) ?hzz123 hHeld ?rzz123
              case hzz123 => (intro w' hSw; (try dsimp only at hSw); go_simp <;> with_reducible rfl)
              try simp only [Act.put, List.setIfInBounds_toArray, List.set_cons_zero, List.set_cons_succ]
              refine take_op (i := 14) (d := 102) (OP := Op.move (Operand.tmp 101)) (T := 4) (v := ?vzz124) rfl rfl rfl rfl (by kernel_rfl) (by kernel_rfl) (by kernel_rfl) (fun _ _ _ h => h) (by rfl) ?hzz124 hHeld ?rzz124
              case hzz124 => (intro w' hSw; (try dsimp only at hSw); go_simp <;> with_reducible rfl)
              try simp only [Act.put, List.setIfInBounds_toArray, List.set_cons_zero, List.set_cons_succ]
              refine take_op (i := 15) (d := 103) (OP := Op.indexAddr 56 (Operand.tmp 20) (Operand.const (Value.int IntKind.i64 0))) (T := 0) (v := ?vzz125) rfl rfl rfl rfl (by kernel_rfl) (by kernel_rfl) (by kernel_rfl) (fun _ _ _ h => h) (by rfl) ?hzz125 hHeld ?rzz125
              case hzz125 => (intro w' hSw; (try dsimp only at hSw); go_simp <;> with_reducible rfl)
              try simp only [Act.put, List.setIfInBounds_toArray, List.set_cons_zero, List.set_cons_succ]
              refine take_op (i := 16) (d := 104) (OP := Op.fieldAddr 38 (Operand.tmp 103) 1) (T := 0) (v := ?vzz126) rfl rfl rfl rfl (by kernel_rfl) (by kernel_rfl) (by kernel_rfl) (fun _ _ _ h => h) (by rfl) ?hzz126 hHeld ?rzz126
              case hzz126 => (intro w' hSw; (try dsimp only at hSw); go_simp <;> with_reducible rfl)
              try simp only [Act.put, List.setIfInBounds_toArray, List.set_cons_zero, List.set_cons_succ]
              refine take_op (i := 17) (d := 105) (OP := Op.load 4 (Operand.tmp 104)) (T := 4) (v := ?vzz127) rfl rfl rfl rfl (by kernel_rfl) (by kernel_rfl) (by kernel_rfl) (fun _ _ _ h => h) (by rfl) ?hzz127 hHeld ?rzz127
              case hzz127 => (intro w' hSw; (try dsimp only at hSw); go_simp <;> with_reducible rfl)
              try simp only [Act.put, List.setIfInBounds_toArray, List.set_cons_zero, List.set_cons_succ]
              refine take_op (i := 18) (d := 106) (OP := Op.indexAddr 56 (Operand.tmp 20) (Operand.const (Value.int IntKind.i64 1))) (T := 0) (v := ?vzz128) rfl rfl rfl rfl (by kernel_rfl) (by kernel_rfl) (by kernel_rfl) (fun _ _ _ h => h) (by rfl) ?hzz128 hHeld ?rzz128
              case hzz128 => (intro w' hSw; (try dsimp only at hSw); go_simp <;> with_reducible rfl)
              try simp only [Act.put, List.setIfInBounds_toArray, List.set_cons_zero, List.set_cons_succ]
              refine take_op (i := 19) (d := 107) (OP := Op.fieldAddr 38 (Operand.tmp 106) 1) (T := 0) (v := ?vzz129) rfl rfl rfl rfl (by kernel_rfl) (by kernel_rfl) (by kernel_rfl) (fun _ _ _ h => h) (by rfl) ?hzz129 hHeld ?rzz129
              case hzz129 => (intro w' hSw; (try dsimp only at hSw); go_simp <;> with_reducible rfl)
              try simp only [Act.put, List.setIfInBounds_toArray, List.set_cons_zero, List.set_cons_succ]
              refine take_op (i := 20) (d := 108) (OP := Op.load 4 (Operand.tmp 107)) (T := 4) (v := ?vzz130) rfl rfl rfl rfl (by kernel_rfl) (by kernel_rfl) (by kernel_rfl) (fun _ _ _ h => h) (by rfl) ?hzz130 hHeld ?rzz130
              case hzz130 => (intro w' hSw; (try dsimp only at hSw); go_simp <;> with_reducible rfl)
              try simp only [Act.put, List.setIfInBounds_toArray, List.set_cons_zero, List.set_cons_succ]
              refine take_op (i := 21) (d := 109) (OP := Op.binOp BinOp.eql 4 (Operand.tmp 105) (Operand.tmp 108) 4) (T := 4) (v := ?vzz131) rfl rfl rfl rfl (by kernel_rfl) (by kernel_rfl) (by kernel_rfl) (fun _ _ _ h => h) (by rfl) ?hzz131 hHeld ?rzz131
              case hzz131 => (intro w' hSw; (try dsimp only at hSw); go_simp <;> with_reducible rfl)
              try simp only [Act.put, List.setIfInBounds_toArray, List.set_cons_zero, List.set_cons_succ]
              refine take_op (i := 22) (d := 110) (OP := Op.pick (Operand.tmp 102) (Operand.const (Value.bool true)) (Operand.tmp 109)) (T := 4) (v := ?vzz132) rfl rfl rfl rfl (by kernel_rfl) (by kernel_rfl) (by kernel_rfl) (fun _ _ _ h => h) (by rfl) ?hzz132 hHeld ?rzz132
              case hzz132 => (intro w' hSw; (try dsimp only at hSw); go_simp <;> with_reducible rfl)
              try simp only [Act.put, List.setIfInBounds_toArray, List.set_cons_zero, List.set_cons_succ]
              refine take_op (i := 23) (d := 111) (OP := Op.move (Operand.tmp 110)) (T := 4) (v := ?vzz133) rfl rfl rfl rfl (by kernel_rfl) (by kernel_rfl) (by kernel_rfl) (fun _ _ _ h => h) (by rfl) ?hzz133 hHeld ?rzz133
              case hzz133 => (intro w' hSw; (try dsimp only at hSw); go_simp <;> with_reducible rfl)
              try simp only [Act.put, List.setIfInBounds_toArray, List.set_cons_zero, List.set_cons_succ]
              refine take_op (i := 24) (d := 112) (OP := Op.load 3 (Operand.tmp 17)) (T := 3) (v := ?vzz134) rfl rfl rfl rfl (by kernel_rfl) (by kernel_rfl) (by kernel_rfl) (fun _ _ _ h => h) (by rfl) ?hzz134 hHeld ?rzz134
              case hzz134 => (intro w' hSw; (try dsimp only at hSw); go_simp <;> with_reducible rfl)
              try simp only [Act.put, List.setIfInBounds_toArray, List.set_cons_zero, List.set_cons_succ]
              refine take_op (i := 25) (d := 113) (OP := Op.binOp BinOp.gtr 3 (Operand.tmp 112) (Operand.const (Value.int IntKind.i64 0)) 3) (T := 4) (v := ?vzz135) rfl rfl rfl rfl (by kernel_rfl) (by kernel_rfl) (by kernel_rfl) (fun _ _ _ h => h) (by rfl) ?hzz135 hHeld ?rzz135
              case hzz135 => (intro w' hSw; (try dsimp only at hSw); go_simp <;> with_reducible rfl)
              try simp only [Act.put, List.setIfInBounds_toArray, List.set_cons_zero, List.set_cons_succ]
              refine take_op (i := 26) (d := 114) (OP := Op.move (Operand.tmp 113)) (T := 4) (v := ?vzz136) rfl rfl rfl rfl (by kernel_rfl) (by kernel_rfl) (by kernel_rfl) (fun _ _ _ h => h) (by rfl) ?hzz136 hHeld ?rzz136
              case hzz136 => (intro w' hSw; (try dsimp only at hSw); go_simp <;> with_reducible rfl)
              try simp only [Act.put, List.setIfInBounds_toArray, List.set_cons_zero, List.set_cons_succ]
              refine pass_op (i := 27) (d := 115) rfl rfl (by kernel_rfl) (by kernel_rfl) (by kernel_rfl) (fun _ _ _ h => h) (by rfl) hHeld ?_
              try simp only [Act.put, List.setIfInBounds_toArray, List.set_cons_zero, List.set_cons_succ]
              refine pass_op (i := 28) (d := 116) rfl rfl (by kernel_rfl) (by kernel_rfl) (by kernel_rfl) (fun _ _ _ h => h) (by rfl) hHeld ?_
              try simp only [Act.put, List.setIfInBounds_toArray, List.set_cons_zero, List.set_cons_succ]
              refine pass_op (i := 29) (d := 117) rfl rfl (by kernel_rfl) (by kernel_rfl) (by kernel_rfl) (fun _ _ _ h => h) (by rfl) hHeld ?_
              try simp only [Act.put, List.setIfInBounds_toArray, List.set_cons_zero, List.set_cons_succ]
              refine take_op (i := 30) (d := 118) (OP := Op.pick (Operand.tmp 114) (Operand.tmp 117) (Operand.const (Value.bool false))) (T := 4) (v := ?vzz137) rfl rfl rfl rfl (by kernel_rfl) (by kernel_rfl) (by kernel_rfl) (fun _ _ _ h => h) (by rfl) ?hzz137 hHeld ?rzz137
              case hzz137 => (intro w' hSw; (try dsimp only at hSw); go_simp <;> with_reducible rfl)
              try simp only [Act.put, List.setIfInBounds_toArray, List.set_cons_zero, List.set_cons_succ]
              refine take_op (i := 31) (d := 119) (OP := Op.pick (Operand.tmp 111) (Operand.const (Value.bool true)) (Operand.tmp 118)) (T := 4) (v := ?vzz138) rfl rfl rfl rfl (by kernel_rfl) (by kernel_rfl) (by kernel_rfl) (fun _ _ _ h => h) (by rfl) ?hzz138 hHeld ?rzz138
              case hzz138 => (intro w' hSw; (try dsimp only at hSw); go_simp <;> with_reducible rfl)
              try simp only [Act.put, List.setIfInBounds_toArray, List.set_cons_zero, List.set_cons_succ]
              refine wpAnyH_done (by kernel_rfl) ?_ _
              have HBZ := qz1.2.2.2.2.2.2.2.2
              clear hHeld qd q0 qz0 qz1 bz0 bz1 hpa hpb nes1 nes2 hne
              obtain ⟨⟨e1, e2, e3, e4⟩, e5, hO, hT⟩ := HI2.out.step (Z := z1) HSA0.out.2.2.2.2.1 HXC.out HBZ.out
              dsimp only at e1 e2 e3 e4 e5 hO hT
              rw [← HSL.out] at e1
              have hO2 := hO.cell (HTT.out.1) (by have := HSA0.out; simp only; omega)
              have hO3 := hO.cell (HTT.out.2) (by have := HSA0.out; have := HSZ.out; simp only; omega)
              have HC2 := hide (And.intro hO hT)
              clear hO hT HBZ
              by_cases hlv : ((n : Int) + 1) = leave
              · have d1 : (((n : Int) + 1) == leave) = true := by simpa using hlv
                have HL := hide hlv
                clear hlv
                gi_wp2
                exact ⟨HC2.out.1, rfl, by first | trivial | rfl, n + 1, by have := HL.out; omega, HC2.out.2⟩
              · have d1 : (((n : Int) + 1) == leave) = false := by simpa using hlv
                clear hlv
                gi_wp2
                exact HC2.out
        case hdone0 =>
          intro wv0 hJ hlsv hK0
          obtain ⟨j, hj, hi⟩ := hJ
          have nc : wv0.cell? ⟨Nb0, 0, none⟩ = some (.int .i64 (j : Int)) := (cell_of_row _ _ 0 _ 3 (0, 0) hi.n).trans rfl
          have tc := hi.only.cell HG0.out.1 (by have := HSA0.out; simp only; omega)
          have lc' := hi.only.cell HG0.out.2.2.2.1 (by have := HSA0.out; have := HSZ.out; simp only; omega)
          have HB1 : Hid (Below wC.heap.size wC wv0) := hide (Below.only HG0.out.2.2.2.2.2.2.2.1 hi.only HG0.out.2.2.2.2.2.2.2.1.size (fun j d => by have := HSA0.out; omega))
          have HV := hide (And.intro hK0 hlsv)
          have hor2 : (((j : Int) == (c : Int)) = true ∧ ((j : Int) != (c : Int)) = false) ∨ (((j : Int) == (c : Int)) = false ∧ ((j : Int) != (c : Int)) = true ∧ ((j : Int) == leave) = true ∧ ((j : Int) != leave) = false) := by
            by_cases hjN : j = c
            · left; rw [hjN]; simp
            · right
              rcases hj with e | ⟨-, e⟩
              · exact absurd (e.trans HC.out.symm) hjN
              · refine ⟨by rw [beq_eq_false_iff_ne]; omega, ?_, by simpa using e, ?_⟩
                · rw [bne_iff_ne]; omega
                · rw [bne, show ((j : Int) == leave) = true by simpa using e]; rfl
          clear hit hI0 hi hj hK0 hlsv
          go_upto_region 34 with fail
          go_cut [141] from 130 to 141 (fun v141 wq => v141 = .bool false ∧ wq = wv0)
          case first =>
            rcases hor2 with ⟨q1, q2⟩ | ⟨q1, q2, q3, q4⟩
            · go_wp2
              go_meet
              exact ⟨rfl, rfl⟩
            · go_wp2
              go_meet
              exact ⟨rfl, rfl⟩
          case rest =>
            obtain ⟨rfl, hwf⟩ := hcut
            replace hwf := hwf.symm
            subst hwf
            clear hor2 nc lc'
            go_wp2
            rw [rounds_succ]
            go_wp2
            obtain ⟨wA1, hwA⟩ : ∃ q, q = ((wv0.alloc (.cells #[.int .i64 1] 3)).alloc (.cells #[.int .i64 0] 3)).alloc (.cells #[.string ⟨#[]⟩] 9) := ⟨_, rfl⟩
            obtain ⟨g0, g1, g2, bA⟩ := new3 wv0 (.cells #[.int .i64 1] 3) (.cells #[.int .i64 0] 3) (.cells #[.string ⟨#[]⟩] 9)
            rw [← hwA] at g0 g1 g2 bA ⊢
            have hsA : wA1.heap.size = wv0.heap.size + 3 := by rw [hwA]; simp
            obtain ⟨Tb1, hTb⟩ : ∃ q, q = wv0.heap.size := ⟨_, rfl⟩
            obtain ⟨Nb1, hNb⟩ : ∃ q, q = wv0.heap.size + 1 := ⟨_, rfl⟩
            obtain ⟨Lb1, hLbx⟩ : ∃ q, q = wv0.heap.size + 1 + 1 := ⟨_, rfl⟩
            rw [← hLbx] at g2 ⊢
            rw [← hNb] at g1 ⊢
            rw [← hTb] at g0 ⊢
            have bCA : Below wC.heap.size wC wA1 := HB1.out.trans (bA.mono HB1.out.size)
            have hBC : wC.heap.size ≤ wv0.heap.size := HB1.out.size
            obtain ⟨f1, f2, f3, f4, f5, f6, f7, f8, f9⟩ := HFA.out wA1 bCA
            have hit := iter_chg a b La Lb xs wA1 f7 f8 H6.out.1.sa H6.out.1.sb H6.out.1.nab (by rw [HP.out.2.1]; exact f5) (by rw [HP.out.2.2.1]; exact f6) HX.out.1
            have hI0 : TI wA1 Nb1 Lb1 xs 0 wA1 := ⟨Only.refl _ _, g1, g2⟩
            have g0c : wA1.cell? ⟨Tb1, 0, none⟩ = some (.int .i64 1) := (cell_of_row _ _ 0 _ 3 (0, 0) g0).trans rfl
            have HSA1 : Hid (Tb1 < wA1.heap.size ∧ Nb1 < wA1.heap.size ∧ Lb1 < wA1.heap.size ∧ (Tb1 ≠ Nb1 ∧ Tb1 ≠ Lb1) ∧ Nb1 ≠ Lb1 ∧ wC.heap.size ≤ Tb1 ∧ wC.heap.size ≤ Nb1 ∧ wC.heap.size ≤ Lb1 ∧ wv0.heap.size ≤ Tb1 ∧ wv0.heap.size ≤ Nb1 ∧ wv0.heap.size ≤ Lb1 ∧ wv0.heap.size ≤ wA1.heap.size) := hide (by omega)
            have HG1 := hide (And.intro g0c (And.intro f1 (And.intro f2 (And.intro f3 (And.intro f4 (And.intro f7 (And.intro f8 (And.intro bCA bA))))))))
            clear g0 g1 g2 bA hsA hTb hNb hLbx bCA hBC f1 f2 f3 f4 f5 f6 f7 f8 f9 g0c hwA
            refine range_itb (Q := _) 4 37 enters37 _ xs encC _ hit rfl (fun _ _ => rfl) (fun j hj => by have := HKL.out j hj; have := HSA1.out; omega) (fun j => j = Nb1 ∨ j = Lb1) (fun j e hj => by have := HKL.out j hj; have := HSA1.out; omega) (fun j e => by have := HSA1.out; omega)
              (TI wA1 Nb1 Lb1 xs) (fun W => ((1 : Nat) = 0) ∧ ∃ k : Nat, (k : Int) = leave ∧ TI wA1 Nb1 Lb1 xs k W) (fun W => ∃ k : Nat, (k = xs.length ∨ ((1 : Nat) = 0 ∧ (k : Int) = leave)) ∧ TI wA1 Nb1 Lb1 xs k W)
              (fun k W W' hi ho => hi.other HSA1.out.2.1 HSA1.out.2.2.1 ho) (fun W W' hi ho => ⟨hi.1, hi.2.choose, hi.2.choose_spec.1, hi.2.choose_spec.2.other HSA1.out.2.1 HSA1.out.2.2.1 ho⟩) hI0 ?hround1 (fun _ _ h => h) (fun W h => ⟨_, .inl rfl, h⟩) (fun W h => ⟨_, .inr ⟨h.1, h.2.choose_spec.1⟩, h.2.choose_spec.2⟩) ?hdone1
            case hround1 =>
              as_aux_lemma =>
                rintro n ⟨k, ⟨p1, p2⟩, ⟨q1, q2⟩⟩ W hxc hi hSame hsz
                clear hit hI0 hSame
                dsimp only [encC]
                gi_wp2
                obtain ⟨W1, hW1⟩ : ∃ W1, W1 = W.alloc (.cells #[.int .i64 p1, .bool p2, .int .i64 q1, .bool q2] 56) := ⟨_, rfl⟩
                have r1 := heap_alloc_new W (.cells #[.int .i64 p1, .bool p2, .int .i64 q1, .bool q2] 56)
                have b1 : Below W.heap.size W W1 := by rw [hW1]; exact (Below.refl _ W).alloc (Nat.le_refl _) _
                rw [← hW1] at r1 ⊢
                refine ⟨below_only b1, fun W2 ho2 => ?_⟩
                have hi2 := (hi.below b1).other HSA1.out.2.1 HSA1.out.2.2.1 ho2
                have r2 := (ho2.block _ (Array.getElem?_eq_some_iff.1 r1).1 (by omega)).trans r1
                obtain ⟨BP, hBP⟩ : ∃ B, B = W.heap.size := ⟨_, rfl⟩
                rw [← hBP] at r2 ⊢
                clear hBP hW1 b1 r1 hsz ho2 hi
                have kb0 : W2.cell? ⟨BP, 0, none⟩ = some (.int .i64 p1) := (cell_of_row _ _ 0 _ 56 (0, 0) r2).trans rfl
                have kb1 : W2.cell? ⟨BP, 1, none⟩ = some (.bool p2) := (cell_of_row _ _ 1 _ 56 (0, 0) r2).trans rfl
                have kb2 : W2.cell? ⟨BP, 2, none⟩ = some (.int .i64 q1) := (cell_of_row _ _ 2 _ 56 (0, 0) r2).trans rfl
                have kb3 : W2.cell? ⟨BP, 3, none⟩ = some (.bool q2) := (cell_of_row _ _ 3 _ 56 (0, 0) r2).trans rfl
                have t1 := hi2.only.cell HG1.out.2.1 (by have := HSA1.out; have := HSZ.out; simp only; omega)
                have t2 := hi2.only.cell HG1.out.2.2.1 (by have := HSA1.out; have := HSZ.out; simp only; omega)
                have tt := hi2.only.cell HG1.out.1 (by have := HSA1.out; have := HSZ.out; simp only; omega)
                have tl := hi2.only.cell HG1.out.2.2.2.1 (by have := HSA1.out; have := HSZ.out; simp only; omega)
                have nc : W2.cell? ⟨Nb1, 0, none⟩ = some (.int .i64 (n : Int)) := (cell_of_row _ _ 0 _ 3 (0, 0) hi2.n).trans rfl
                have hs := keys_rise (x := (k, (p1, p2), (q1, q2))) (c := n) HX.out.1 hxc
                dsimp only at hs
                have lk : W2.cell? ⟨Lb1, 0, none⟩ = some (.string (lastK xs n)) := (cell_of_row _ _ 0 _ 9 (0, 0) hi2.last).trans rfl
                obtain ⟨s, hsl⟩ : ∃ s, s = lastK xs n := ⟨_, rfl⟩
                rw [← hsl] at hs lk
                have HSL := hide hsl
                clear hsl r2
                obtain ⟨m1, m2, m3⟩ := (HX.out.1.mem (k, (p1, p2), (q1, q2))).1 (List.mem_of_getElem? hxc)
                dsimp only at m1 m2 m3
                have ia : In W2 a := In.over HG1.out.2.2.2.2.2.1 hi2.only (fun j d hb => by have := HKL.out j (.inr (.inr (.inl hb))); have := HSA1.out; omega)
                have ib : In W2 b := In.over HG1.out.2.2.2.2.2.2.1 hi2.only (fun j d hb => by have := HKL.out j (.inr (.inr (.inr hb))); have := HSA1.out; omega)
                have hpa : ∀ W', Below W2.heap.size W2 W' → Calls Try.prog 12 #[.agg #[.pointer pa'], .string k] W' fun e w' => e = .returned (.agg #[.int .i64 p1, .bool p2]) ∧ Below W'.heap.size W' w' := fun W' hW => by
                  have := part_any a k W' (In.below hW ia) H6.out.1.sa
                  rw [mv_ptr HP.out.2.1, ← m1] at this
                  exact this
                have hpb : ∀ W', Below W2.heap.size W2 W' → Calls Try.prog 12 #[.agg #[.pointer pb'], .string k] W' fun e w' => e = .returned (.agg #[.int .i64 q1, .bool q2]) ∧ Below W'.heap.size W' w' := fun W' hW => by
                  have := part_any b k W' (In.below hW ib) H6.out.1.sb
                  rw [mv_ptr HP.out.2.2.1, ← m2] at this
                  exact this
                have nes1 := run_ne38 p1 p1 p2 p2
                have nes2 := run_ne38 q1 q1 q2 q2
                rw [decide_eq_true rfl] at nes1 nes2
                have hne : (p2 == q2) = false := by simpa using m3
                have HI2 := hide hi2
                have HTT := hide (And.intro tt tl)
                have HXC := hide hxc
                have hnb : n ≤ 1000 := by have := (List.getElem?_eq_some_iff.1 hxc).1; have := HX.out.2; omega
                clear m1 m2 m3 ia ib hi2 tt tl hxc
                by_cases hn : 0 < n
                · obtain ⟨hs1, hs2⟩ := hs hn
                  have hn1 : (0 : Int) < (n : Int) := by omega
                  clear hs
                  have q0 : W2.cell? ⟨BP, 0, none⟩ = some (.int .i64 p1) ∧ W2.cell? ⟨BP, 1, none⟩ = some (.bool p2) ∧ W2.cell? ⟨BP, 2, none⟩ = some (.int .i64 q1) ∧ W2.cell? ⟨BP, 3, none⟩ = some (.bool q2) ∧ W2.cell? ⟨X1, 0, none⟩ = some (.pointer pa') ∧ W2.cell? ⟨X2, 0, none⟩ = some (.pointer pb') ∧ W2.cell? ⟨Nb1, 0, none⟩ = some (.int .i64 (n : Int)) ∧ W2.cell? ⟨Lb1, 0, none⟩ = some (.string s) ∧ Hid (Below W2.heap.size W2 W2) := ⟨kb0, kb1, kb2, kb3, t1, t2, nc, lk, hide (Below.refl _ _)⟩
                  clear kb0 kb1 kb2 kb3 t1 t2 nc lk
                  have qd : W2.drew.cell? ⟨BP, 0, none⟩ = some (.int .i64 p1) ∧ W2.drew.cell? ⟨BP, 1, none⟩ = some (.bool p2) ∧ W2.drew.cell? ⟨BP, 2, none⟩ = some (.int .i64 q1) ∧ W2.drew.cell? ⟨BP, 3, none⟩ = some (.bool q2) ∧ W2.drew.cell? ⟨X1, 0, none⟩ = some (.pointer pa') ∧ W2.drew.cell? ⟨X2, 0, none⟩ = some (.pointer pb') ∧ W2.drew.cell? ⟨Nb1, 0, none⟩ = some (.int .i64 (n : Int)) ∧ W2.drew.cell? ⟨Lb1, 0, none⟩ = some (.string s) ∧ Hid (Below W2.heap.size W2 W2.drew) := ⟨q0.1, q0.2.1, q0.2.2.1, q0.2.2.2.1, q0.2.2.2.2.1, q0.2.2.2.2.2.1, q0.2.2.2.2.2.2.1, q0.2.2.2.2.2.2.2.1, hide (q0.2.2.2.2.2.2.2.2.out.trans ((drew_below W2).mono q0.2.2.2.2.2.2.2.2.out.size))⟩
                  gi_wp2
                  refine region_in (S := (fun w' => w'.cell? ⟨BP, 0, none⟩ = some (.int .i64 p1) ∧ w'.cell? ⟨BP, 1, none⟩ = some (.bool p2) ∧ w'.cell? ⟨BP, 2, none⟩ = some (.int .i64 q1) ∧ w'.cell? ⟨BP, 3, none⟩ = some (.bool q2) ∧ w'.cell? ⟨X1, 0, none⟩ = some (.pointer pa') ∧ w'.cell? ⟨X2, 0, none⟩ = some (.pointer pb') ∧ w'.cell? ⟨Nb1, 0, none⟩ = some (.int .i64 (n : Int)) ∧ w'.cell? ⟨Lb1, 0, none⟩ = some (.string s) ∧ Hid (Below W2.heap.size W2 w'))) (by kernel_rfl) (by kernel_rfl) (by intro _ _ h; exact h) qd (fun hHeld => ?_)
                  try dsimp only at hHeld
                  refine take_op (i := 0) (d := 88) (OP := Op.indexAddr 56 (Operand.tmp 20) (Operand.const (Value.int IntKind.i64 0))) (T := 0) (v := ?vzz25) rfl rfl rfl rfl (by kernel_rfl) (by kernel_rfl) (by kernel_rfl) (fun _ _ _ h => h) (by rfl) ?hzz25 hHeld ?rzz25
                  case hzz25 => (intro w' hSw; (try dsimp only at hSw); go_simp <;> with_reducible rfl)
                  try simp only [Act.put, List.setIfInBounds_toArray, List.set_cons_zero, List.set_cons_succ]
                  refine take_op (i := 1) (d := 89) (OP := Op.load 38 (Operand.tmp 88)) (T := 38) (v := ?vzz26) rfl rfl rfl rfl (by kernel_rfl) (by kernel_rfl) (by kernel_rfl) (fun _ _ _ h => h) (by rfl) ?hzz26 hHeld ?rzz26
                  case hzz26 => (intro w' hSw; (try dsimp only at hSw); go_simp <;> with_reducible rfl)
                  try simp only [Act.put, List.setIfInBounds_toArray, List.set_cons_zero, List.set_cons_succ]
                  refine take_op (i := 2) (d := 90) (OP := Op.load 29 (Operand.tmp 6)) (T := 29) (v := ?vzz27) rfl rfl rfl rfl (by kernel_rfl) (by kernel_rfl) (by kernel_rfl) (fun _ _ _ h => h) (by rfl) ?hzz27 hHeld ?rzz27
                  case hzz27 => (intro w' hSw; (try dsimp only at hSw); go_simp <;> with_reducible rfl)
                  try simp only [Act.put, List.setIfInBounds_toArray, List.set_cons_zero, List.set_cons_succ]
                  refine take_op (i := 3) (d := 91) (OP := Op.move (Operand.tmp 19)) (T := 9) (v := ?vzz28) rfl rfl rfl rfl (by kernel_rfl) (by kernel_rfl) (by kernel_rfl) (fun _ _ _ h => h) (by rfl) ?hzz28 hHeld ?rzz28
                  case hzz28 => (intro w' hSw; (try dsimp only at hSw); go_simp <;> with_reducible rfl)
                  try simp only [Act.put, List.setIfInBounds_toArray, List.set_cons_zero, List.set_cons_succ]
                  refine call_op (i := 4) (d := 92) (OP := Op.call { callee := Callee.value (Operand.func 12), args := #[Operand.tmp 90, Operand.tmp 91], argTypes := #[29, 9] }) (T := 38) (f := 12) (args := #[.agg #[.pointer pa'], .string k]) rfl rfl rfl rfl (by kernel_rfl) (by rfl) (by go_simp) ?_
                  refine (hpa _ qd.2.2.2.2.2.2.2.2.out).mono ?_
                  rintro e z0 ⟨rfl, bz0⟩
                  have qz0 : z0.cell? ⟨BP, 0, none⟩ = some (.int .i64 p1) ∧ z0.cell? ⟨BP, 1, none⟩ = some (.bool p2) ∧ z0.cell? ⟨BP, 2, none⟩ = some (.int .i64 q1) ∧ z0.cell? ⟨BP, 3, none⟩ = some (.bool q2) ∧ z0.cell? ⟨X1, 0, none⟩ = some (.pointer pa') ∧ z0.cell? ⟨X2, 0, none⟩ = some (.pointer pb') ∧ z0.cell? ⟨Nb1, 0, none⟩ = some (.int .i64 (n : Int)) ∧ z0.cell? ⟨Lb1, 0, none⟩ = some (.string s) ∧ Hid (Below W2.heap.size W2 z0) := ⟨cell_stays qd.1 bz0, cell_stays qd.2.1 bz0, cell_stays qd.2.2.1 bz0, cell_stays qd.2.2.2.1 bz0, cell_stays qd.2.2.2.2.1 bz0, cell_stays qd.2.2.2.2.2.1 bz0, cell_stays qd.2.2.2.2.2.2.1 bz0, cell_stays qd.2.2.2.2.2.2.2.1 bz0, hide (qd.2.2.2.2.2.2.2.2.out.trans (bz0.mono qd.2.2.2.2.2.2.2.2.out.size))⟩
                  refine ⟨_, rfl, qz0, ?_⟩
                  replace hHeld := qz0
                  try simp only [Act.put, List.setIfInBounds_toArray, List.set_cons_zero, List.set_cons_succ]
                  refine take_op (i := 5) (d := 93) (OP := Op.binOp BinOp.neq 38 (Operand.tmp 89) (Operand.tmp 92) 38) (T := 4) (v := ?vzz29) rfl rfl rfl rfl (by kernel_rfl) (by kernel_rfl) (by kernel_rfl) (fun _ _ _ h => h) (by rfl) ?hzz29 hHeld ?rzz29
                  case hzz29 => (intro w' hSw; (try dsimp only at hSw); go_simp <;> with_reducible rfl)
                  try simp only [Act.put, List.setIfInBounds_toArray, List.set_cons_zero, List.set_cons_succ]
                  refine take_op (i := 6) (d := 94) (OP := Op.move (Operand.tmp 93)) (T := 4) (v := ?vzz30) rfl rfl rfl rfl (by kernel_rfl) (by kernel_rfl) (by kernel_rfl) (fun _ _ _ h => h) (by rfl) ?hzz30 hHeld ?rzz30
                  case hzz30 => (intro w' hSw; (try dsimp only at hSw); go_simp <;> with_reducible rfl)
                  try simp only [Act.put, List.setIfInBounds_toArray, List.set_cons_zero, List.set_cons_succ]
                  refine take_op (i := 7) (d := 95) (OP := Op.indexAddr 56 (Operand.tmp 20) (Operand.const (Value.int IntKind.i64 1))) (T := 0) (v := ?vzz31) rfl rfl rfl rfl (by kernel_rfl) (by kernel_rfl) (by kernel_rfl) (fun _ _ _ h => h) (by rfl) ?hzz31 hHeld ?rzz31
                  case hzz31 => (intro w' hSw; (try dsimp only at hSw); go_simp <;> with_reducible rfl)
                  try simp only [Act.put, List.setIfInBounds_toArray, List.set_cons_zero, List.set_cons_succ]
                  refine take_op (i := 8) (d := 96) (OP := Op.load 38 (Operand.tmp 95)) (T := 38) (v := ?vzz32) rfl rfl rfl rfl (by kernel_rfl) (by kernel_rfl) (by kernel_rfl) (fun _ _ _ h => h) (by rfl) ?hzz32 hHeld ?rzz32
                  case hzz32 => (intro w' hSw; (try dsimp only at hSw); go_simp <;> with_reducible rfl)
                  try simp only [Act.put, List.setIfInBounds_toArray, List.set_cons_zero, List.set_cons_succ]
                  refine take_op (i := 9) (d := 97) (OP := Op.load 29 (Operand.tmp 7)) (T := 29) (v := ?vzz33) rfl rfl rfl rfl (by kernel_rfl) (by kernel_rfl) (by kernel_rfl) (fun _ _ _ h => h) (by rfl) ?hzz33 hHeld ?rzz33
                  case hzz33 => (intro w' hSw; (try dsimp only at hSw); go_simp <;> with_reducible rfl)
                  try simp only [Act.put, List.setIfInBounds_toArray, List.set_cons_zero, List.set_cons_succ]
                  refine take_op (i := 10) (d := 98) (OP := Op.move (Operand.tmp 19)) (T := 9) (v := ?vzz34) rfl rfl rfl rfl (by kernel_rfl) (by kernel_rfl) (by kernel_rfl) (fun _ _ _ h => h) (by rfl) ?hzz34 hHeld ?rzz34
                  case hzz34 => (intro w' hSw; (try dsimp only at hSw); go_simp <;> with_reducible rfl)
                  try simp only [Act.put, List.setIfInBounds_toArray, List.set_cons_zero, List.set_cons_succ]
                  refine call_op (i := 11) (d := 99) (OP := Op.call { callee := Callee.value (Operand.func 12), args := #[Operand.tmp 97, Operand.tmp 98], argTypes := #[29, 9] }) (T := 38) (f := 12) (args := #[.agg #[.pointer pb'], .string k]) rfl rfl rfl rfl (by kernel_rfl) (by rfl) (by go_simp) ?_
                  refine (hpb _ qz0.2.2.2.2.2.2.2.2.out).mono ?_
                  rintro e z1 ⟨rfl, bz1⟩
                  have qz1 : z1.cell? ⟨BP, 0, none⟩ = some (.int .i64 p1) ∧ z1.cell? ⟨BP, 1, none⟩ = some (.bool p2) ∧ z1.cell? ⟨BP, 2, none⟩ = some (.int .i64 q1) ∧ z1.cell? ⟨BP, 3, none⟩ = some (.bool q2) ∧ z1.cell? ⟨X1, 0, none⟩ = some (.pointer pa') ∧ z1.cell? ⟨X2, 0, none⟩ = some (.pointer pb') ∧ z1.cell? ⟨Nb1, 0, none⟩ = some (.int .i64 (n : Int)) ∧ z1.cell? ⟨Lb1, 0, none⟩ = some (.string s) ∧ Hid (Below W2.heap.size W2 z1) := ⟨cell_stays qz0.1 bz1, cell_stays qz0.2.1 bz1, cell_stays qz0.2.2.1 bz1, cell_stays qz0.2.2.2.1 bz1, cell_stays qz0.2.2.2.2.1 bz1, cell_stays qz0.2.2.2.2.2.1 bz1, cell_stays qz0.2.2.2.2.2.2.1 bz1, cell_stays qz0.2.2.2.2.2.2.2.1 bz1, hide (qz0.2.2.2.2.2.2.2.2.out.trans (bz1.mono qz0.2.2.2.2.2.2.2.2.out.size))⟩
                  refine ⟨_, rfl, qz1, ?_⟩
                  replace hHeld := qz1
                  try simp only [Act.put, List.setIfInBounds_toArray, List.set_cons_zero, List.set_cons_succ]
                  refine take_op (i := 12) (d := 100) (OP := Op.binOp BinOp.neq 38 (Operand.tmp 96) (Operand.tmp 99) 38) (T := 4) (v := ?vzz35) rfl rfl rfl rfl (by kernel_rfl) (by kernel_rfl) (by kernel_rfl) (fun _ _ _ h => h) (by rfl) ?hzz35 hHeld ?rzz35
                  case hzz35 => (intro w' hSw; (try dsimp only at hSw); go_simp <;> with_reducible rfl)
                  try simp only [Act.put, List.setIfInBounds_toArray, List.set_cons_zero, List.set_cons_succ]
                  refine take_op (i := 13) (d := 101) (OP := Op.pick (Operand.tmp 94) (Operand.const (Value.bool true)) (Operand.tmp 100)) (T := 4) (v := ?vzz36) rfl rfl rfl rfl (by kernel_rfl) (by kernel_rfl) (by kernel_rfl) (fun _ _ _ h => h) (by rfl) ?hzz36 hHeld ?rzz36
                  case hzz36 => (intro w' hSw; (try dsimp only at hSw); go_simp <;> with_reducible rfl)
                  try simp only [Act.put, List.setIfInBounds_toArray, List.set_cons_zero, List.set_cons_succ]
                  refine take_op (i := 14) (d := 102) (OP := Op.move (Operand.tmp 101)) (T := 4) (v := ?vzz37) rfl rfl rfl rfl (by kernel_rfl) (by kernel_rfl) (by kernel_rfl) (fun _ _ _ h => h) (by rfl) ?hzz37 hHeld ?rzz37
                  case hzz37 => (intro w' hSw; (try dsimp only at hSw); go_simp <;> with_reducible rfl)
                  try simp only [Act.put, List.setIfInBounds_toArray, List.set_cons_zero, List.set_cons_succ]
                  refine take_op (i := 15) (d := 103) (OP := Op.indexAddr 56 (Operand.tmp 20) (Operand.const (Value.int IntKind.i64 0))) (T := 0) (v := ?vzz38) rfl rfl rfl rfl (by kernel_rfl) (by kernel_rfl) (by kernel_rfl) (fun _ _ _ h => h) (by rfl) ?hzz38 hHeld ?rzz38
                  case hzz38 => (intro w' hSw; (try dsimp only at hSw); go_simp <;> with_reducible rfl)
                  try simp only [Act.put, List.setIfInBounds_toArray, List.set_cons_zero, List.set_cons_succ]
                  refine take_op (i := 16) (d := 104) (OP := Op.fieldAddr 38 (Operand.tmp 103) 1) (T := 0) (v := ?vzz39) rfl rfl rfl rfl (by kernel_rfl) (by kernel_rfl) (by kernel_rfl) (fun _ _ _ h => h) (by rfl) ?hzz39 hHeld ?rzz39
                  case hzz39 => (intro w' hSw; (try dsimp only at hSw); go_simp <;> with_reducible rfl)
                  try simp only [Act.put, List.setIfInBounds_toArray, List.set_cons_zero, List.set_cons_succ]
                  refine take_op (i := 17) (d := 105) (OP := Op.load 4 (Operand.tmp 104)) (T := 4) (v := ?vzz40) rfl rfl rfl rfl (by kernel_rfl) (by kernel_rfl) (by kernel_rfl) (fun _ _ _ h => h) (by rfl) ?hzz40 hHeld ?rzz40
                  case hzz40 => (intro w' hSw; (try dsimp only at hSw); go_simp <;> with_reducible rfl)
                  try simp only [Act.put, List.setIfInBounds_toArray, List.set_cons_zero, List.set_cons_succ]
                  refine take_op (i := 18) (d := 106) (OP := Op.indexAddr 56 (Operand.tmp 20) (Operand.const (Value.int IntKind.i64 1))) (T := 0) (v := ?vzz41) rfl rfl rfl rfl (by kernel_rfl) (by kernel_rfl) (by kernel_rfl) (fun _ _ _ h => h) (by rfl) ?hzz41 hHeld ?rzz41
                  case hzz41 => (intro w' hSw; (try dsimp only at hSw); go_simp <;> with_reducible rfl)
                  try simp only [Act.put, List.setIfInBounds_toArray, List.set_cons_zero, List.set_cons_succ]
                  refine take_op (i := 19) (d := 107) (OP := Op.fieldAddr 38 (Operand.tmp 106) 1) (T := 0) (v := ?vzz42) rfl rfl rfl rfl (by kernel_rfl) (by kernel_rfl) (by kernel_rfl) (fun _ _ _ h => h) (by rfl) ?hzz42 hHeld ?rzz42
                  case hzz42 => (intro w' hSw; (try dsimp only at hSw); go_simp <;> with_reducible rfl)
                  try simp only [Act.put, List.setIfInBounds_toArray, List.set_cons_zero, List.set_cons_succ]
                  refine take_op (i := 20) (d := 108) (OP := Op.load 4 (Operand.tmp 107)) (T := 4) (v := ?vzz43) rfl rfl rfl rfl (by kernel_rfl) (by kernel_rfl) (by kernel_rfl) (fun _ _ _ h => h) (by rfl) ?hzz43 hHeld ?rzz43
                  case hzz43 => (intro w' hSw; (try dsimp only at hSw); go_simp <;> with_reducible rfl)
                  try simp only [Act.put, List.setIfInBounds_toArray, List.set_cons_zero, List.set_cons_succ]
                  refine take_op (i := 21) (d := 109) (OP := Op.binOp BinOp.eql 4 (Operand.tmp 105) (Operand.tmp 108) 4) (T := 4) (v := ?vzz44) rfl rfl rfl rfl (by kernel_rfl) (by kernel_rfl) (by kernel_rfl) (fun _ _ _ h => h) (by rfl) ?hzz44 hHeld ?rzz44
                  case hzz44 => (intro w' hSw; (try dsimp only at hSw); go_simp <;> with_reducible rfl)
                  try simp only [Act.put, List.setIfInBounds_toArray, List.set_cons_zero, List.set_cons_succ]
                  refine take_op (i := 22) (d := 110) (OP := Op.pick (Operand.tmp 102) (Operand.const (Value.bool true)) (Operand.tmp 109)) (T := 4) (v := ?vzz45) rfl rfl rfl rfl (by kernel_rfl) (by kernel_rfl) (by kernel_rfl) (fun _ _ _ h => h) (by rfl) ?hzz45 hHeld ?rzz45
                  case hzz45 => (intro w' hSw; (try dsimp only at hSw); go_simp <;> with_reducible rfl)
                  try simp only [Act.put, List.setIfInBounds_toArray, List.set_cons_zero, List.set_cons_succ]
                  refine take_op (i := 23) (d := 111) (OP := Op.move (Operand.tmp 110)) (T := 4) (v := ?vzz46) rfl rfl rfl rfl (by kernel_rfl) (by kernel_rfl) (by kernel_rfl) (fun _ _ _ h => h) (by rfl) ?hzz46 hHeld ?rzz46
                  case hzz46 => (intro w' hSw; (try dsimp only at hSw); go_simp <;> with_reducible rfl)
                  try simp only [Act.put, List.setIfInBounds_toArray, List.set_cons_zero, List.set_cons_succ]
                  refine take_op (i := 24) (d := 112) (OP := Op.load 3 (Operand.tmp 17)) (T := 3) (v := ?vzz47) rfl rfl rfl rfl (by kernel_rfl) (by kernel_rfl) (by kernel_rfl) (fun _ _ _ h => h) (by rfl) ?hzz47 hHeld ?rzz47
                  case hzz47 => (intro w' hSw; (try dsimp only at hSw); go_simp <;> with_reducible rfl)
                  try simp only [Act.put, List.setIfInBounds_toArray, List.set_cons_zero, List.set_cons_succ]
                  refine take_op (i := 25) (d := 113) (OP := Op.binOp BinOp.gtr 3 (Operand.tmp 112) (Operand.const (Value.int IntKind.i64 0)) 3) (T := 4) (v := ?vzz48) rfl rfl rfl rfl (by kernel_rfl) (by kernel_rfl) (by kernel_rfl) (fun _ _ _ h => h) (by rfl) ?hzz48 hHeld ?rzz48
                  case hzz48 => (intro w' hSw; (try dsimp only at hSw); go_simp <;> with_reducible rfl)
                  try simp only [Act.put, List.setIfInBounds_toArray, List.set_cons_zero, List.set_cons_succ]
                  refine take_op (i := 26) (d := 114) (OP := Op.move (Operand.tmp 113)) (T := 4) (v := ?vzz49) rfl rfl rfl rfl (by kernel_rfl) (by kernel_rfl) (by kernel_rfl) (fun _ _ _ h => h) (by rfl) ?hzz49 hHeld ?rzz49
                  case hzz49 => (intro w' hSw; (try dsimp only at hSw); go_simp <;> with_reducible rfl)
                  try simp only [Act.put, List.setIfInBounds_toArray, List.set_cons_zero, List.set_cons_succ]
                  refine take_op (i := 27) (d := 115) (OP := Op.move (Operand.tmp 19)) (T := 9) (v := ?vzz50) rfl rfl rfl rfl (by kernel_rfl) (by kernel_rfl) (by kernel_rfl) (fun _ _ _ h => h) (by rfl) ?hzz50 hHeld ?rzz50
                  case hzz50 => (intro w' hSw; (try dsimp only at hSw); go_simp <;> with_reducible rfl)
                  try simp only [Act.put, List.setIfInBounds_toArray, List.set_cons_zero, List.set_cons_succ]
                  refine take_op (i := 28) (d := 116) (OP := Op.load 9 (Operand.tmp 18)) (T := 9) (v := ?vzz51) rfl rfl rfl rfl (by kernel_rfl) (by kernel_rfl) (by kernel_rfl) (fun _ _ _ h => h) (by rfl) ?hzz51 hHeld ?rzz51
                  case hzz51 => (intro w' hSw; (try dsimp only at hSw); go_simp <;> with_reducible rfl)
                  try simp only [Act.put, List.setIfInBounds_toArray, List.set_cons_zero, List.set_cons_succ]
                  refine take_op (i := 29) (d := 117) (OP := Op.binOp BinOp.leq 9 (Operand.tmp 115) (Operand.tmp 116) 9) (T := 4) (v := ?vzz52) rfl rfl rfl rfl (by kernel_rfl) (by kernel_rfl) (by kernel_rfl) (fun _ _ _ h => h) (by rfl) ?hzz52 hHeld ?rzz52
                  case hzz52 => (intro w' hSw; (try dsimp only at hSw); go_simp <;> with_reducible rfl)
                  try simp only [Act.put, List.setIfInBounds_toArray, List.set_cons_zero, List.set_cons_succ]
                  refine take_op (i := 30) (d := 118) (OP := Op.pick (Operand.tmp 114) (Operand.tmp 117) (Operand.const (Value.bool false))) (T := 4) (v := ?vzz53) rfl rfl rfl rfl (by kernel_rfl) (by kernel_rfl) (by kernel_rfl) (fun _ _ _ h => h) (by rfl) ?hzz53 hHeld ?rzz53
                  case hzz53 => (intro w' hSw; (try dsimp only at hSw); go_simp <;> with_reducible rfl)
                  try simp only [Act.put, List.setIfInBounds_toArray, List.set_cons_zero, List.set_cons_succ]
                  refine take_op (i := 31) (d := 119) (OP := Op.pick (Operand.tmp 111) (Operand.const (Value.bool true)) (Operand.tmp 118)) (T := 4) (v := ?vzz54) rfl rfl rfl rfl (by kernel_rfl) (by kernel_rfl) (by kernel_rfl) (fun _ _ _ h => h) (by rfl) ?hzz54 hHeld ?rzz54
                  case hzz54 => (intro w' hSw; (try dsimp only at hSw); go_simp <;> with_reducible rfl)
                  try simp only [Act.put, List.setIfInBounds_toArray, List.set_cons_zero, List.set_cons_succ]
                  refine wpAnyH_done (by kernel_rfl) ?_ _
                  have HBZ := qz1.2.2.2.2.2.2.2.2
                  clear hHeld qd q0 qz0 qz1 bz0 bz1 hpa hpb nes1 nes2 hne
                  obtain ⟨⟨e1, e2, e3, e4⟩, e5, hO, hT⟩ := HI2.out.step (Z := z1) HSA1.out.2.2.2.2.1 HXC.out HBZ.out
                  dsimp only at e1 e2 e3 e4 e5 hO hT
                  rw [← HSL.out] at e1
                  have hO2 := hO.cell (HTT.out.1) (by have := HSA1.out; simp only; omega)
                  have hO3 := hO.cell (HTT.out.2) (by have := HSA1.out; have := HSZ.out; simp only; omega)
                  have HC2 := hide (And.intro hO hT)
                  clear hO hT HBZ
                  gi_wp2
                  exact HC2.out
                · have hn1 : ¬ (0 : Int) < (n : Int) := by omega
                  clear hs
                  have q0 : W2.cell? ⟨BP, 0, none⟩ = some (.int .i64 p1) ∧ W2.cell? ⟨BP, 1, none⟩ = some (.bool p2) ∧ W2.cell? ⟨BP, 2, none⟩ = some (.int .i64 q1) ∧ W2.cell? ⟨BP, 3, none⟩ = some (.bool q2) ∧ W2.cell? ⟨X1, 0, none⟩ = some (.pointer pa') ∧ W2.cell? ⟨X2, 0, none⟩ = some (.pointer pb') ∧ W2.cell? ⟨Nb1, 0, none⟩ = some (.int .i64 (n : Int)) ∧ W2.cell? ⟨Lb1, 0, none⟩ = some (.string s) ∧ Hid (Below W2.heap.size W2 W2) := ⟨kb0, kb1, kb2, kb3, t1, t2, nc, lk, hide (Below.refl _ _)⟩
                  clear kb0 kb1 kb2 kb3 t1 t2 nc lk
                  have qd : W2.drew.cell? ⟨BP, 0, none⟩ = some (.int .i64 p1) ∧ W2.drew.cell? ⟨BP, 1, none⟩ = some (.bool p2) ∧ W2.drew.cell? ⟨BP, 2, none⟩ = some (.int .i64 q1) ∧ W2.drew.cell? ⟨BP, 3, none⟩ = some (.bool q2) ∧ W2.drew.cell? ⟨X1, 0, none⟩ = some (.pointer pa') ∧ W2.drew.cell? ⟨X2, 0, none⟩ = some (.pointer pb') ∧ W2.drew.cell? ⟨Nb1, 0, none⟩ = some (.int .i64 (n : Int)) ∧ W2.drew.cell? ⟨Lb1, 0, none⟩ = some (.string s) ∧ Hid (Below W2.heap.size W2 W2.drew) := ⟨q0.1, q0.2.1, q0.2.2.1, q0.2.2.2.1, q0.2.2.2.2.1, q0.2.2.2.2.2.1, q0.2.2.2.2.2.2.1, q0.2.2.2.2.2.2.2.1, hide (q0.2.2.2.2.2.2.2.2.out.trans ((drew_below W2).mono q0.2.2.2.2.2.2.2.2.out.size))⟩
                  gi_wp2
                  refine region_in (S := (fun w' => w'.cell? ⟨BP, 0, none⟩ = some (.int .i64 p1) ∧ w'.cell? ⟨BP, 1, none⟩ = some (.bool p2) ∧ w'.cell? ⟨BP, 2, none⟩ = some (.int .i64 q1) ∧ w'.cell? ⟨BP, 3, none⟩ = some (.bool q2) ∧ w'.cell? ⟨X1, 0, none⟩ = some (.pointer pa') ∧ w'.cell? ⟨X2, 0, none⟩ = some (.pointer pb') ∧ w'.cell? ⟨Nb1, 0, none⟩ = some (.int .i64 (n : Int)) ∧ w'.cell? ⟨Lb1, 0, none⟩ = some (.string s) ∧ Hid (Below W2.heap.size W2 w'))) (by kernel_rfl) (by kernel_rfl) (by intro _ _ h; exact h) qd (fun hHeld => ?_)
                  try dsimp only at hHeld
                  refine take_op (i := 0) (d := 88) (OP := Op.indexAddr 56 (Operand.tmp 20) (Operand.const (Value.int IntKind.i64 0))) (T := 0) (v := ?vzz55) rfl rfl rfl rfl (by kernel_rfl) (by kernel_rfl) (by kernel_rfl) (fun _ _ _ h => h) (by rfl) ?hzz55 hHeld ?rzz55
                  case hzz55 => (intro w' hSw; (try dsimp only at hSw); go_simp <;> with_reducible rfl)
                  try simp only [Act.put, List.setIfInBounds_toArray, List.set_cons_zero, List.set_cons_succ]
                  refine take_op (i := 1) (d := 89) (OP := Op.load 38 (Operand.tmp 88)) (T := 38) (v := ?vzz56) rfl rfl rfl rfl (by kernel_rfl) (by kernel_rfl) (by kernel_rfl) (fun _ _ _ h => h) (by rfl) ?hzz56 hHeld ?rzz56
                  case hzz56 => (intro w' hSw; (try dsimp only at hSw); go_simp <;> with_reducible rfl)
                  try simp only [Act.put, List.setIfInBounds_toArray, List.set_cons_zero, List.set_cons_succ]
                  refine take_op (i := 2) (d := 90) (OP := Op.load 29 (Operand.tmp 6)) (T := 29) (v := ?vzz57) rfl rfl rfl rfl (by kernel_rfl) (by kernel_rfl) (by kernel_rfl) (fun _ _ _ h => h) (by rfl) ?hzz57 hHeld ?rzz57
                  case hzz57 => (intro w' hSw; (try dsimp only at hSw); go_simp <;> with_reducible rfl)
                  try simp only [Act.put, List.setIfInBounds_toArray, List.set_cons_zero, List.set_cons_succ]
                  refine take_op (i := 3) (d := 91) (OP := Op.move (Operand.tmp 19)) (T := 9) (v := ?vzz58) rfl rfl rfl rfl (by kernel_rfl) (by kernel_rfl) (by kernel_rfl) (fun _ _ _ h => h) (by rfl) ?hzz58 hHeld ?rzz58
                  case hzz58 => (intro w' hSw; (try dsimp only at hSw); go_simp <;> with_reducible rfl)
                  try simp only [Act.put, List.setIfInBounds_toArray, List.set_cons_zero, List.set_cons_succ]
                  refine call_op (i := 4) (d := 92) (OP := Op.call { callee := Callee.value (Operand.func 12), args := #[Operand.tmp 90, Operand.tmp 91], argTypes := #[29, 9] }) (T := 38) (f := 12) (args := #[.agg #[.pointer pa'], .string k]) rfl rfl rfl rfl (by kernel_rfl) (by rfl) (by go_simp) ?_
                  refine (hpa _ qd.2.2.2.2.2.2.2.2.out).mono ?_
                  rintro e z0 ⟨rfl, bz0⟩
                  have qz0 : z0.cell? ⟨BP, 0, none⟩ = some (.int .i64 p1) ∧ z0.cell? ⟨BP, 1, none⟩ = some (.bool p2) ∧ z0.cell? ⟨BP, 2, none⟩ = some (.int .i64 q1) ∧ z0.cell? ⟨BP, 3, none⟩ = some (.bool q2) ∧ z0.cell? ⟨X1, 0, none⟩ = some (.pointer pa') ∧ z0.cell? ⟨X2, 0, none⟩ = some (.pointer pb') ∧ z0.cell? ⟨Nb1, 0, none⟩ = some (.int .i64 (n : Int)) ∧ z0.cell? ⟨Lb1, 0, none⟩ = some (.string s) ∧ Hid (Below W2.heap.size W2 z0) := ⟨cell_stays qd.1 bz0, cell_stays qd.2.1 bz0, cell_stays qd.2.2.1 bz0, cell_stays qd.2.2.2.1 bz0, cell_stays qd.2.2.2.2.1 bz0, cell_stays qd.2.2.2.2.2.1 bz0, cell_stays qd.2.2.2.2.2.2.1 bz0, cell_stays qd.2.2.2.2.2.2.2.1 bz0, hide (qd.2.2.2.2.2.2.2.2.out.trans (bz0.mono qd.2.2.2.2.2.2.2.2.out.size))⟩
                  refine ⟨_, rfl, qz0, ?_⟩
                  replace hHeld := qz0
                  try simp only [Act.put, List.setIfInBounds_toArray, List.set_cons_zero, List.set_cons_succ]
                  refine take_op (i := 5) (d := 93) (OP := Op.binOp BinOp.neq 38 (Operand.tmp 89) (Operand.tmp 92) 38) (T := 4) (v := ?vzz59) rfl rfl rfl rfl (by kernel_rfl) (by kernel_rfl) (by kernel_rfl) (fun _ _ _ h => h) (by rfl) ?hzz59 hHeld ?rzz59
                  case hzz59 => (intro w' hSw; (try dsimp only at hSw); go_simp <;> with_reducible rfl)
                  try simp only [Act.put, List.setIfInBounds_toArray, List.set_cons_zero, List.set_cons_succ]
                  refine take_op (i := 6) (d := 94) (OP := Op.move (Operand.tmp 93)) (T := 4) (v := ?vzz60) rfl rfl rfl rfl (by kernel_rfl) (by kernel_rfl) (by kernel_rfl) (fun _ _ _ h => h) (by rfl) ?hzz60 hHeld ?rzz60
                  case hzz60 => (intro w' hSw; (try dsimp only at hSw); go_simp <;> with_reducible rfl)
                  try simp only [Act.put, List.setIfInBounds_toArray, List.set_cons_zero, List.set_cons_succ]
                  refine take_op (i := 7) (d := 95) (OP := Op.indexAddr 56 (Operand.tmp 20) (Operand.const (Value.int IntKind.i64 1))) (T := 0) (v := ?vzz61) rfl rfl rfl rfl (by kernel_rfl) (by kernel_rfl) (by kernel_rfl) (fun _ _ _ h => h) (by rfl) ?hzz61 hHeld ?rzz61
                  case hzz61 => (intro w' hSw; (try dsimp only at hSw); go_simp <;> with_reducible rfl)
                  try simp only [Act.put, List.setIfInBounds_toArray, List.set_cons_zero, List.set_cons_succ]
                  refine take_op (i := 8) (d := 96) (OP := Op.load 38 (Operand.tmp 95)) (T := 38) (v := ?vzz62) rfl rfl rfl rfl (by kernel_rfl) (by kernel_rfl) (by kernel_rfl) (fun _ _ _ h => h) (by rfl) ?hzz62 hHeld ?rzz62
                  case hzz62 => (intro w' hSw; (try dsimp only at hSw); go_simp <;> with_reducible rfl)
                  try simp only [Act.put, List.setIfInBounds_toArray, List.set_cons_zero, List.set_cons_succ]
                  refine take_op (i := 9) (d := 97) (OP := Op.load 29 (Operand.tmp 7)) (T := 29) (v := ?vzz63) rfl rfl rfl rfl (by kernel_rfl) (by kernel_rfl) (by kernel_rfl) (fun _ _ _ h => h) (by rfl) ?hzz63 hHeld ?rzz63
                  case hzz63 => (intro w' hSw; (try dsimp only at hSw); go_simp <;> with_reducible rfl)
                  try simp only [Act.put, List.setIfInBounds_toArray, List.set_cons_zero, List.set_cons_succ]
                  refine take_op (i := 10) (d := 98) (OP := Op.move (Operand.tmp 19)) (T := 9) (v := ?vzz64) rfl rfl rfl rfl (by kernel_rfl) (by kernel_rfl) (by kernel_rfl) (fun _ _ _ h => h) (by rfl) ?hzz64 hHeld ?rzz64
                  case hzz64 => (intro w' hSw; (try dsimp only at hSw); go_simp <;> with_reducible rfl)
                  try simp only [Act.put, List.setIfInBounds_toArray, List.set_cons_zero, List.set_cons_succ]
                  refine call_op (i := 11) (d := 99) (OP := Op.call { callee := Callee.value (Operand.func 12), args := #[Operand.tmp 97, Operand.tmp 98], argTypes := #[29, 9] }) (T := 38) (f := 12) (args := #[.agg #[.pointer pb'], .string k]) rfl rfl rfl rfl (by kernel_rfl) (by rfl) (by go_simp) ?_
                  refine (hpb _ qz0.2.2.2.2.2.2.2.2.out).mono ?_
                  rintro e z1 ⟨rfl, bz1⟩
                  have qz1 : z1.cell? ⟨BP, 0, none⟩ = some (.int .i64 p1) ∧ z1.cell? ⟨BP, 1, none⟩ = some (.bool p2) ∧ z1.cell? ⟨BP, 2, none⟩ = some (.int .i64 q1) ∧ z1.cell? ⟨BP, 3, none⟩ = some (.bool q2) ∧ z1.cell? ⟨X1, 0, none⟩ = some (.pointer pa') ∧ z1.cell? ⟨X2, 0, none⟩ = some (.pointer pb') ∧ z1.cell? ⟨Nb1, 0, none⟩ = some (.int .i64 (n : Int)) ∧ z1.cell? ⟨Lb1, 0, none⟩ = some (.string s) ∧ Hid (Below W2.heap.size W2 z1) := ⟨cell_stays qz0.1 bz1, cell_stays qz0.2.1 bz1, cell_stays qz0.2.2.1 bz1, cell_stays qz0.2.2.2.1 bz1, cell_stays qz0.2.2.2.2.1 bz1, cell_stays qz0.2.2.2.2.2.1 bz1, cell_stays qz0.2.2.2.2.2.2.1 bz1, cell_stays qz0.2.2.2.2.2.2.2.1 bz1, hide (qz0.2.2.2.2.2.2.2.2.out.trans (bz1.mono qz0.2.2.2.2.2.2.2.2.out.size))⟩
                  refine ⟨_, rfl, qz1, ?_⟩
                  replace hHeld := qz1
                  try simp only [Act.put, List.setIfInBounds_toArray, List.set_cons_zero, List.set_cons_succ]
                  refine take_op (i := 12) (d := 100) (OP := Op.binOp BinOp.neq 38 (Operand.tmp 96) (Operand.tmp 99) 38) (T := 4) (v := ?vzz65) rfl rfl rfl rfl (by kernel_rfl) (by kernel_rfl) (by kernel_rfl) (fun _ _ _ h => h) (by rfl) ?hzz65 hHeld ?rzz65
                  case hzz65 => (intro w' hSw; (try dsimp only at hSw); go_simp <;> with_reducible rfl)
                  try simp only [Act.put, List.setIfInBounds_toArray, List.set_cons_zero, List.set_cons_succ]
                  refine take_op (i := 13) (d := 101) (OP := Op.pick (Operand.tmp 94) (Operand.const (Value.bool true)) (Operand.tmp 100)) (T := 4) (v := ?vzz66) rfl rfl rfl rfl (by kernel_rfl) (by kernel_rfl) (by kernel_rfl) (fun _ _ _ h => h) (by rfl) ?hzz66 hHeld ?rzz66
                  case hzz66 => (intro w' hSw; (try dsimp only at hSw); go_simp <;> with_reducible rfl)
                  try simp only [Act.put, List.setIfInBounds_toArray, List.set_cons_zero, List.set_cons_succ]
                  refine take_op (i := 14) (d := 102) (OP := Op.move (Operand.tmp 101)) (T := 4) (v := ?vzz67) rfl rfl rfl rfl (by kernel_rfl) (by kernel_rfl) (by kernel_rfl) (fun _ _ _ h => h) (by rfl) ?hzz67 hHeld ?rzz67
                  case hzz67 => (intro w' hSw; (try dsimp only at hSw); go_simp <;> with_reducible rfl)
                  try simp only [Act.put, List.setIfInBounds_toArray, List.set_cons_zero, List.set_cons_succ]
                  refine take_op (i := 15) (d := 103) (OP := Op.indexAddr 56 (Operand.tmp 20) (Operand.const (Value.int IntKind.i64 0))) (T := 0) (v := ?vzz68) rfl rfl rfl rfl (by kernel_rfl) (by kernel_rfl) (by kernel_rfl) (fun _ _ _ h => h) (by rfl) ?hzz68 hHeld ?rzz68
                  case hzz68 => (intro w' hSw; (try dsimp only at hSw); go_simp <;> with_reducible rfl)
                  try simp only [Act.put, List.setIfInBounds_toArray, List.set_cons_zero, List.set_cons_succ]
                  refine take_op (i := 16) (d := 104) (OP := Op.fieldAddr 38 (Operand.tmp 103) 1) (T := 0) (v := ?vzz69) rfl rfl rfl rfl (by kernel_rfl) (by kernel_rfl) (by kernel_rfl) (fun _ _ _ h => h) (by rfl) ?hzz69 hHeld ?rzz69
                  case hzz69 => (intro w' hSw; (try dsimp only at hSw); go_simp <;> with_reducible rfl)
                  try simp only [Act.put, List.setIfInBounds_toArray, List.set_cons_zero, List.set_cons_succ]
                  refine take_op (i := 17) (d := 105) (OP := Op.load 4 (Operand.tmp 104)) (T := 4) (v := ?vzz70) rfl rfl rfl rfl (by kernel_rfl) (by kernel_rfl) (by kernel_rfl) (fun _ _ _ h => h) (by rfl) ?hzz70 hHeld ?rzz70
                  case hzz70 => (intro w' hSw; (try dsimp only at hSw); go_simp <;> with_reducible rfl)
                  try simp only [Act.put, List.setIfInBounds_toArray, List.set_cons_zero, List.set_cons_succ]
                  refine take_op (i := 18) (d := 106) (OP := Op.indexAddr 56 (Operand.tmp 20) (Operand.const (Value.int IntKind.i64 1))) (T := 0) (v := ?vzz71) rfl rfl rfl rfl (by kernel_rfl) (by kernel_rfl) (by kernel_rfl) (fun _ _ _ h => h) (by rfl) ?hzz71 hHeld ?rzz71
                  case hzz71 => (intro w' hSw; (try dsimp only at hSw); go_simp <;> with_reducible rfl)
                  try simp only [Act.put, List.setIfInBounds_toArray, List.set_cons_zero, List.set_cons_succ]
                  refine take_op (i := 19) (d := 107) (OP := Op.fieldAddr 38 (Operand.tmp 106) 1) (T := 0) (v := ?vzz72) rfl rfl rfl rfl (by kernel_rfl) (by kernel_rfl) (by kernel_rfl) (fun _ _ _ h => h) (by rfl) ?hzz72 hHeld ?rzz72
                  case hzz72 => (intro w' hSw; (try dsimp only at hSw); go_simp <;> with_reducible rfl)
                  try simp only [Act.put, List.setIfInBounds_toArray, List.set_cons_zero, List.set_cons_succ]
                  refine take_op (i := 20) (d := 108) (OP := Op.load 4 (Operand.tmp 107)) (T := 4) (v := ?vzz73) rfl rfl rfl rfl (by kernel_rfl) (by kernel_rfl) (by kernel_rfl) (fun _ _ _ h => h) (by rfl) ?hzz73 hHeld ?rzz73
                  case hzz73 => (intro w' hSw; (try dsimp only at hSw); go_simp <;> with_reducible rfl)
                  try simp only [Act.put, List.setIfInBounds_toArray, List.set_cons_zero, List.set_cons_succ]
                  refine take_op (i := 21) (d := 109) (OP := Op.binOp BinOp.eql 4 (Operand.tmp 105) (Operand.tmp 108) 4) (T := 4) (v := ?vzz74) rfl rfl rfl rfl (by kernel_rfl) (by kernel_rfl) (by kernel_rfl) (fun _ _ _ h => h) (by rfl) ?hzz74 hHeld ?rzz74
                  case hzz74 => (intro w' hSw; (try dsimp only at hSw); go_simp <;> with_reducible rfl)
                  try simp only [Act.put, List.setIfInBounds_toArray, List.set_cons_zero, List.set_cons_succ]
                  refine take_op (i := 22) (d := 110) (OP := Op.pick (Operand.tmp 102) (Operand.const (Value.bool true)) (Operand.tmp 109)) (T := 4) (v := ?vzz75) rfl rfl rfl rfl (by kernel_rfl) (by kernel_rfl) (by kernel_rfl) (fun _ _ _ h => h) (by rfl) ?hzz75 hHeld ?rzz75
                  case hzz75 => (intro w' hSw; (try dsimp only at hSw); go_simp <;> with_reducible rfl)
                  try simp only [Act.put, List.setIfInBounds_toArray, List.set_cons_zero, List.set_cons_succ]
                  refine take_op (i := 23) (d := 111) (OP := Op.move (Operand.tmp 110)) (T := 4) (v := ?vzz76) rfl rfl rfl rfl (by kernel_rfl) (by kernel_rfl) (by kernel_rfl) (fun _ _ _ h => h) (by rfl) ?hzz76 hHeld ?rzz76
                  case hzz76 => (intro w' hSw; (try dsimp only at hSw); go_simp <;> with_reducible rfl)
                  try simp only [Act.put, List.setIfInBounds_toArray, List.set_cons_zero, List.set_cons_succ]
                  refine take_op (i := 24) (d := 112) (OP := Op.load 3 (Operand.tmp 17)) (T := 3) (v := ?vzz77) rfl rfl rfl rfl (by kernel_rfl) (by kernel_rfl) (by kernel_rfl) (fun _ _ _ h => h) (by rfl) ?hzz77 hHeld ?rzz77
                  case hzz77 => (intro w' hSw; (try dsimp only at hSw); go_simp <;> with_reducible rfl)
                  try simp only [Act.put, List.setIfInBounds_toArray, List.set_cons_zero, List.set_cons_succ]
                  refine take_op (i := 25) (d := 113) (OP := Op.binOp BinOp.gtr 3 (Operand.tmp 112) (Operand.const (Value.int IntKind.i64 0)) 3) (T := 4) (v := ?vzz78) rfl rfl rfl rfl (by kernel_rfl) (by kernel_rfl) (by kernel_rfl) (fun _ _ _ h => h) (by rfl) ?hzz78 hHeld ?rzz78
                  case hzz78 => (intro w' hSw; (try dsimp only at hSw); go_simp <;> with_reducible rfl)
                  try simp only [Act.put, List.setIfInBounds_toArray, List.set_cons_zero, List.set_cons_succ]
                  refine take_op (i := 26) (d := 114) (OP := Op.move (Operand.tmp 113)) (T := 4) (v := ?vzz79) rfl rfl rfl rfl (by kernel_rfl) (by kernel_rfl) (by kernel_rfl) (fun _ _ _ h => h) (by rfl) ?hzz79 hHeld ?rzz79
                  case hzz79 => (intro w' hSw; (try dsimp only at hSw); go_simp <;> with_reducible rfl)
                  try simp only [Act.put, List.setIfInBounds_toArray, List.set_cons_zero, List.set_cons_succ]
                  refine pass_op (i := 27) (d := 115) rfl rfl (by kernel_rfl) (by kernel_rfl) (by kernel_rfl) (fun _ _ _ h => h) (by rfl) hHeld ?_
                  try simp only [Act.put, List.setIfInBounds_toArray, List.set_cons_zero, List.set_cons_succ]
                  refine pass_op (i := 28) (d := 116) rfl rfl (by kernel_rfl) (by kernel_rfl) (by kernel_rfl) (fun _ _ _ h => h) (by rfl) hHeld ?_
                  try simp only [Act.put, List.setIfInBounds_toArray, List.set_cons_zero, List.set_cons_succ]
                  refine pass_op (i := 29) (d := 117) rfl rfl (by kernel_rfl) (by kernel_rfl) (by kernel_rfl) (fun _ _ _ h => h) (by rfl) hHeld ?_
                  try simp only [Act.put, List.setIfInBounds_toArray, List.set_cons_zero, List.set_cons_succ]
                  refine take_op (i := 30) (d := 118) (OP := Op.pick (Operand.tmp 114) (Operand.tmp 117) (Operand.const (Value.bool false))) (T := 4) (v := ?vzz80) rfl rfl rfl rfl (by kernel_rfl) (by kernel_rfl) (by kernel_rfl) (fun _ _ _ h => h) (by rfl) ?hzz80 hHeld ?rzz80
                  case hzz80 => (intro w' hSw; (try dsimp only at hSw); go_simp <;> with_reducible rfl)
                  try simp only [Act.put, List.setIfInBounds_toArray, List.set_cons_zero, List.set_cons_succ]
                  refine take_op (i := 31) (d := 119) (OP := Op.pick (Operand.tmp 111) (Operand.const (Value.bool true)) (Operand.tmp 118)) (T := 4) (v := ?vzz81) rfl rfl rfl rfl (by kernel_rfl) (by kernel_rfl) (by kernel_rfl) (fun _ _ _ h => h) (by rfl) ?hzz81 hHeld ?rzz81
                  case hzz81 => (intro w' hSw; (try dsimp only at hSw); go_simp <;> with_reducible rfl)
                  try simp only [Act.put, List.setIfInBounds_toArray, List.set_cons_zero, List.set_cons_succ]
                  refine wpAnyH_done (by kernel_rfl) ?_ _
                  have HBZ := qz1.2.2.2.2.2.2.2.2
                  clear hHeld qd q0 qz0 qz1 bz0 bz1 hpa hpb nes1 nes2 hne
                  obtain ⟨⟨e1, e2, e3, e4⟩, e5, hO, hT⟩ := HI2.out.step (Z := z1) HSA1.out.2.2.2.2.1 HXC.out HBZ.out
                  dsimp only at e1 e2 e3 e4 e5 hO hT
                  rw [← HSL.out] at e1
                  have hO2 := hO.cell (HTT.out.1) (by have := HSA1.out; simp only; omega)
                  have hO3 := hO.cell (HTT.out.2) (by have := HSA1.out; have := HSZ.out; simp only; omega)
                  have HC2 := hide (And.intro hO hT)
                  clear hO hT HBZ
                  gi_wp2
                  exact HC2.out
            case hdone1 =>
              intro wv1 hJ hlsv hK1
              obtain ⟨j, hj, hi⟩ := hJ
              have hjc : j = c := by
                rcases hj with e | ⟨e, -⟩
                · exact e.trans HC.out.symm
                · exact absurd e (by decide)
              have nc : wv1.cell? ⟨Nb1, 0, none⟩ = some (.int .i64 (c : Int)) := by rw [← hjc]; exact (cell_of_row _ _ 0 _ 3 (0, 0) hi.n).trans rfl
              have tc := hi.only.cell HG1.out.1 (by have := HSA1.out; simp only; omega)
              have lc' := hi.only.cell HG1.out.2.2.2.1 (by have := HSA1.out; have := HSZ.out; simp only; omega)
              have e1 : ((c : Int) == (c : Int)) = true := by simp
              have e2 : ((c : Int) != (c : Int)) = false := by simp
              have bA1 := HG1.out.2.2.2.2.2.2.2.2
              have bC1 : Below wC.heap.size wC wv1 := Below.only HG1.out.2.2.2.2.2.2.2.1 hi.only HG1.out.2.2.2.2.2.2.2.1.size (fun j d => by have := HSA1.out; omega)
              have hK0 : wv1.heap[wA0.heap.size]? = some (.deferred (some [])) := (hi.only.block _ (Nat.lt_of_lt_of_le HV.out.2 bA1.size) (fun d => by have := HSA1.out; have := HV.out.2; omega)).trans ((bA1.block _ HV.out.2).trans HV.out.1)
              have hfin : ∀ W, Below wv1.heap.size wv1 W → W.cell? ⟨Rs, 0, none⟩ = some (.bool false) ∧ W.frozen? ⟨Rs, 0, none⟩ = false ∧ Hid (W.heap[Rs]? = some (.cells #[.bool false] 4 (0, 0)) ∧ W.heap[wA0.heap.size]? = some (.deferred (some [])) ∧ W.heap[wA1.heap.size]? = some (.deferred (some [])) ∧ Below w.heap.size w W) := fun W hW => by
                obtain ⟨-, -, -, f4, -, -, -, -, f9⟩ := HFA.out W (bC1.trans (hW.mono bC1.size))
                exact ⟨(cell_of_row _ _ 0 _ 4 (0, 0) f4).trans rfl, frozen_of_row _ _ 0 _ 4 f4, hide ⟨f4, (hW.block _ (Array.getElem?_eq_some_iff.1 hK0).1).trans hK0, (hW.block _ hlsv).trans hK1, f9⟩⟩
              have b9 : Below wv1.heap.size wv1 (wv1.alloc (.cells #[.int .i64 2] 3)) := (Below.refl _ wv1).alloc (Nat.le_refl _) _
              have HFI := hide (And.intro hfin b9)
              have HLT := hide (And.intro hlsv HV.out.2)
              clear hit hI0 hi hj hK1 hK0 hlsv hjc bA1 bC1 hfin b9
              go_wp2
              rw [rounds_succ]
              go_wp2_with (go_at_call 8; refine (HK.out _).mono ?_; rintro e w9 ⟨rfl, bk⟩; obtain ⟨cr, fr, HE⟩ := HFI.out.1 w9 (HFI.out.2.trans (bk.mono HFI.out.2.size)); clear bk; dsimp only)
              obtain ⟨rr9, k0, k1, bw9⟩ := HE.out
              have hz := HSZ.out
              have hA0 := HSA0.out
              have hA1 := HSA1.out
              have hv := HV.out.2
              obtain ⟨s5, o5⟩ := set_one (i := 0) (.bool true) rr9
              have x1 := (o5.block _ (Array.getElem?_eq_some_iff.1 k1).1 (by omega)).trans k1
              have x0 := (o5.block _ (Array.getElem?_eq_some_iff.1 k0).1 (by omega)).trans k0
              have hcell : (w9.setCell ⟨Rs, 0, none⟩ (.bool true)).cell? ⟨Rs, 0, none⟩ = some (.bool true) := (cell_of_row _ _ 0 _ 4 (0, 0) s5).trans rfl
              have o1 := only_putObj (w9.setCell ⟨Rs, 0, none⟩ (.bool true)) wA1.heap.size (.deferred none)
              have x0' := (o1.block wA0.heap.size (Array.getElem?_eq_some_iff.1 x0).1 (by omega)).trans x0
              have o2 := only_putObj ((w9.setCell ⟨Rs, 0, none⟩ (.bool true)).putObj wA1.heap.size (.deferred none)) wA0.heap.size (.deferred none)
              have p5 := Below.only bw9 o5 bw9.size (fun j d => by omega)
              have p6 := Below.only p5 o1 p5.size (fun j d => by omega)
              have p7 := Below.only p6 o2 p6.size (fun j d => by omega)
              exact leave_mark (fn := Try.f6) x1 (leave_mark x0' (leave_cell Rs (x := true) rfl rfl (o2.cell (o1.cell hcell (by simp only; omega)) (by simp only; omega)) ⟨rfl, p7⟩))
  · have hf1 := hf.2 hfew
    clear hf hfew
    have hrr := HT.out.2.2.2.2
    refine calls_marks Try.func6 rfl ?_
    simp only [Try.ntmps6, List.size_toArray, List.length_cons, List.length_nil, Nat.reduceAdd, Nat.reduceSub, Array.replicate_succ, Array.replicate_zero, List.push_toArray, List.append_toArray, List.nil_append, List.cons_append]
    go_wp2_with (first
      | (go_at_call 7; refine hf1.mono ?_; rintro e w1 ⟨rfl, b1⟩; dsimp only)
      | (go_at_call 8; refine (HK.out w1).mono ?_; rintro e w2 ⟨rfl, b2⟩; have S2 := b1.trans (b2.mono b1.size); have rr2 := (S2.block _ (Array.getElem?_eq_some_iff.1 hrr).1).trans hrr; have cr2 : w2.cell? ⟨w.heap.size + 1 + 1, 0, none⟩ = some (.bool false) := (cell_of_row _ _ 0 _ 4 (0, 0) rr2).trans rfl; have fr2 : w2.frozen? ⟨w.heap.size + 1 + 1, 0, none⟩ = false := frozen_of_row _ _ 0 _ 4 rr2; have HS2 := hide (And.intro S2 rr2); clear S2 rr2 b2; dsimp only))
    obtain ⟨S2, rr2⟩ := HS2.out
    obtain ⟨s5, o5⟩ := set_one (i := 0) (.bool true) rr2
    refine ret_leave ?_
    dsimp only
    refine leave_cell (fn := Try.f6) (w.heap.size + 1 + 1) (x := true) rfl rfl ?_ ?_
    · exact (cell_of_row _ _ 0 _ 4 (0, 0) s5).trans rfl
    refine ⟨rfl, ?_⟩
    have b2 := HT.out.2.1.trans (S2.mono HT.out.2.1.size)
    exact Below.only b2 o5 b2.size (fun j d => by omega)
end Go.Proofs.Ytckkoigghkgfdaa
