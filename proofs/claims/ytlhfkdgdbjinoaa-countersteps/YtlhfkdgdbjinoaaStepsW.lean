/-
  The walk of CounterSteps 4.
-/
import Derived.Test.YtlhfkdgdbjinoaaStepsT
namespace Go.Proofs.Ytlhfkdgdbjinoaa
open Go.RowKit Go.Shelf
set_option linter.unusedSimpArgs false
attribute [local go_sem] Oper.semAt_some

theorem drew_below (W : World) : Below W.heap.size W W.drew := ⟨rfl, rfl, rfl, Nat.le_refl _, fun _ _ => rfl⟩
theorem wrap_succ {q k : Nat} (h : q < k) (hk : k ≤ 1000) : wrap64 ((q : Int) + 1) = (q : Int) + 1 ∧ IntKind.i64.wrap ((q : Int) + 1) = (q : Int) + 1 ∧ ¬ ((k : Int) ≤ (q : Int)) ∧ ¬ (k ≤ q) := by
  have h1 : wrap64 ((q : Int) + 1) = (q : Int) + 1 := by unfold wrap64; omega
  exact ⟨h1, by rw [IntKind.wrap_i64, ← wrap64, h1], by omega, by omega⟩
theorem slice_succ {ao : Option Addr} {n c q : Nat} (hj : q + 1 ≤ c) (hn : ao = none → c = 0) (w : World) : (Instr.slice 23 (.slice ao n c) none (some (.int .i64 ((q : Int) + 1))) none).run Try.prog w = .ok (.slice ao (q + 1) c) w := by
  have := slice_hi (ao := ao) (n := n) hj hn w
  rw [Int.natCast_add] at this
  exact this
theorem nil_cap {ao : Option Addr} {l : List Int} {N c : Nat} {w : World} (h : Nd w ao l) (hN : N = l.length) (hq : 0 < N) : ao = none → c = 0 := fun e => by
  have := h.1 e
  rw [hN, this] at hq
  simp at hq
theorem steps_eq {n : Int} (hn : In64 n) (L : List Int) : wrap64 (n + sumN 0 L) = sumN n L ∧ IntKind.i64.wrap (n + sumN 0 L) = sumN n L := by
  have h : wrap64 (n + sumN 0 L) = sumN n L := by rw [sumN_eq _ n hn.w, sumN_eq _ 0 (by decide +kernel), Int.zero_add, w64_add']
  exact ⟨h, by rw [IntKind.wrap_i64, ← wrap64, h]⟩
theorem keepT {w W W' : World} {x y : Value} {B C : Nat} (h : W.cell? ⟨B, 0, none⟩ = some x ∧ W.cell? ⟨C, 0, none⟩ = some y ∧ Below w.heap.size w W) (hb : Below W.heap.size W W') : W'.cell? ⟨B, 0, none⟩ = some x ∧ W'.cell? ⟨C, 0, none⟩ = some y ∧ Below w.heap.size w W' :=
  ⟨cell_stays h.1 hb, cell_stays h.2.1 hb, h.2.2.trans (hb.mono h.2.2.size)⟩
set_option maxHeartbeats 16000000 in
set_option maxRecDepth 100000 in
theorem steps_walk (n leave : Int) (l : List Int) (ao : Option Addr) (c : Nat) (w : World) (hn : In64 n) (h : Nd w ao l) (hc : ao = none → c = 0) (hcap : l.length ≤ c) (hl : l.length ≤ 1000) :
    Calls Try.prog 4 #[.int .i64 n, .slice ao l.length c, .int .i64 leave] w fun e w' => e = .returned (.bool true) ∧ Below w.heap.size w w' := by
  obtain ⟨N, hN⟩ : ∃ N, N = l.length := ⟨_, rfl⟩
  rw [← hN] at hl hcap ⊢
  have z1 : ¬ ((1000 : Int) < N) := by omega
  obtain ⟨i0, hi, hz0, hz1, hz2⟩ := info_of info2
  have HI := hide (And.intro hi (And.intro hz0 (And.intro hz1 hz2)))
  clear hi hz0 hz1 hz2
  obtain ⟨m0, m1, m2, m3, b1⟩ := new4 w (.cells #[.int .i64 n] 2) (.cells #[.slice ao N c] 23) (.cells #[.int .i64 leave] 3) (.cells #[.bool false] 4)
  obtain ⟨w1, hw1⟩ : ∃ w1, w1 = (((w.alloc (.cells #[.int .i64 n] 2)).alloc (.cells #[.slice ao N c] 23)).alloc (.cells #[.int .i64 leave] 3)).alloc (.cells #[.bool false] 4) := ⟨_, rfl⟩
  rw [← hw1] at m0 m1 m2 m3 b1
  have hs1 : w1.heap.size = w.heap.size + 4 := by rw [hw1]; simp
  obtain ⟨Bn, hBn⟩ : ∃ B, B = w.heap.size := ⟨_, rfl⟩
  obtain ⟨Bl, hBl⟩ : ∃ B, B = w.heap.size + 1 := ⟨_, rfl⟩
  obtain ⟨Bv, hBv⟩ : ∃ B, B = w.heap.size + 1 + 1 := ⟨_, rfl⟩
  obtain ⟨Br, hBr⟩ : ∃ B, B = w.heap.size + 1 + 1 + 1 := ⟨_, rfl⟩
  rw [← hBn] at m0
  rw [← hBl] at m1
  rw [show w.heap.size + 2 = Bv by omega] at m2
  rw [show w.heap.size + 3 = Br by omega] at m3
  have FA : ∀ W, Below w1.heap.size w1 W → W.cell? ⟨Bn, 0, none⟩ = some (.int .i64 n) ∧ W.cell? ⟨Bl, 0, none⟩ = some (.slice ao N c) ∧ W.cell? ⟨Bv, 0, none⟩ = some (.int .i64 leave) ∧ W.heap[Br]? = some (.cells #[.bool false] 4 (0, 0)) ∧ Nd W ao l ∧ Below w.heap.size w W := fun W hW =>
    ⟨(cell_of_row _ _ 0 _ 2 (0, 0) ((hW.block _ (Array.getElem?_eq_some_iff.1 m0).1).trans m0)).trans rfl, (cell_of_row _ _ 0 _ 23 (0, 0) ((hW.block _ (Array.getElem?_eq_some_iff.1 m1).1).trans m1)).trans rfl, (cell_of_row _ _ 0 _ 3 (0, 0) ((hW.block _ (Array.getElem?_eq_some_iff.1 m2).1).trans m2)).trans rfl, (hW.block _ (Array.getElem?_eq_some_iff.1 m3).1).trans m3, h.below (b1.trans (hW.mono b1.size)), b1.trans (hW.mono b1.size)⟩
  have app1 : ∀ W, W = w1 → ∀ {ops : Array Oper} {rest : List Oper} {o : Oper} {a : Act} {Q : Exit → Act → World → Prop} (_ : o.guard = none) (s t : Operand) (_ : o.op = .call { callee := .builtin .append, args := #[s, t], argTypes := #[23, 23] })
      (_ : a.eval s = .slice none 0 0) (_ : a.eval t = .slice ao N c)
      (_ : ∀ ao' cap' w', Hid (Nw 2 w' w1.heap.size (.slice ao' N cap') l ∧ Below w1.heap.size w1 w' ∧ (ao' = none → cap' = 0)) → wpList Try.prog ops Q rest (a.put o.dst (.slice ao' N cap')) w'),
      wpList Try.prog ops Q (o :: rest) a W := by
    intro W hWw ops rest o a Q hg s t ho hs ht hk
    subst hWw
    refine wpList_append_nd hg s t 23 ho W.heap.size 2 i0 Try.underlying23 HI.out.1 HI.out.2.1 HI.out.2.2.1 HI.out.2.2.2 (.slice none 0 0) [] hs (Nw.nil _ _ _) ao c l (by rw [ht, hN]) hc (h.below b1) (by simp; omega) (Nat.le_refl _) ?_
    intro ao' cap' w' h1 h2 h3
    rw [List.length_nil, Nat.zero_add, ← hN, List.nil_append] at h1
    rw [List.length_nil, Nat.zero_add, ← hN]
    exact hk ao' cap' w' (hide ⟨h1, below_nw (Below.refl _ _) (Nat.le_refl _) (Nw.nil 2 _ _) h2, h3⟩)
  have k15 := fun (W : World) (a : Option Addr) (d : Nat) (hW : Nd W a l) (hd : a = none → d = 0) => steps_any (n := n) (c := d) hW hd (by omega)
  simp only [← hN] at k15
  have k16 := fun W : World => split_int (w := W) (n := n) (p := leave) hn
  have k17 := fun W : World => refSplit_int (w := W) (n := n) (p := leave) hn
  have k9 := fun (W : World) (a b : Option Addr) (d e : Nat) (hA : Nd W a (splitI n leave)) (hB : Nd W b (splitI n leave)) => refSame_any (c := d) (d := e) hA hB (by have := splitI_len n leave; omega)
  simp only [decide_true] at k9
  obtain ⟨SP, hSP⟩ : ∃ S, S = splitI n leave := ⟨_, rfl⟩
  unfold MadeN at k16 k17
  simp only [← hSP] at k16 k17 k9
  obtain ⟨SL, hSL⟩ : ∃ S, S = SP.length := ⟨_, rfl⟩
  simp only [← hSL] at k16 k17 k9
  have k6 := fun W => known_any W
  have hfn := fun f x y W => fn_nil34 f x y W
  obtain ⟨e0, e1, e2, _, _, _⟩ := FA w1 (Below.refl _ _)
  rw [hBn] at e0; rw [hBl] at e1; rw [hBv] at e2
  rw [hw1] at e0 e1 e2
  have HW := hide (And.intro hw1 (And.intro hN (And.intro h (And.intro hs1 (And.intro hcap (And.intro hBn (And.intro hBl (And.intro hBv (And.intro hBr (And.intro hSP hSL))))))))))
  replace FA := hide FA
  clear hN h hw1 hs1 hc hcap m0 m1 m2 m3 b1 hSP hSL hBn hBl hBv hBr
  refine calls_marks Try.func4 rfl ?_
  simp only [Try.ntmps4, List.size_toArray, List.length_cons, List.length_nil, Nat.reduceAdd, Nat.reduceSub, Array.replicate_succ, Array.replicate_zero, List.push_toArray, List.append_toArray, List.nil_append, List.cons_append]
  go_upto_region 4 with (refine app1 _ HW.out.1.symm rfl _ _ rfl rfl rfl ?_; intro a2 c2 w2 H2; clear app1)
  obtain ⟨f0, f1, f2, f3, f4, f5⟩ := FA.out w2 H2.out.2.1
  have eBn := HW.out.2.2.2.2.2.1
  have eBl := HW.out.2.2.2.2.2.2.1
  have eBv := HW.out.2.2.2.2.2.2.2.1
  have eBr := HW.out.2.2.2.2.2.2.2.2.1
  rw [← eBr, ← eBv, ← eBl, ← eBn]
  clear eBn eBl eBv eBr e0 e1 e2 f3 f4 f5
  go_upto_region 5 with (go_at_call 15; refine (k15 _ _ _ H2.out.1.rd H2.out.2.2).mono ?_; rintro e w3 ⟨L, a', c', rfl, g1, g2, g3, g4, g5, b3⟩; clear k15)
  have b13 := H2.out.2.1.trans (b3.mono H2.out.2.1.size)
  have H3 := hide (And.intro g1 (And.intro g2 (And.intro g3 (And.intro g4 (And.intro g5 (And.intro b3 b13))))))
  have hS0 : w3.cell? ⟨Bn, 0, none⟩ = some (.int .i64 n) ∧ w3.cell? ⟨Bv, 0, none⟩ = some (.int .i64 leave) ∧ Below w3.heap.size w3 w3 := ⟨(FA.out w3 b13).1, (FA.out w3 b13).2.2.1, Below.refl _ _⟩
  clear g1 g2 g3 g4 g5 b3 b13 f0 f1 f2
  go_region_held3 (fun W => W.cell? ⟨Bn, 0, none⟩ = some (.int .i64 n) ∧ W.cell? ⟨Bv, 0, none⟩ = some (.int .i64 leave) ∧ Below w3.heap.size w3 W) (first | assumption | exact keepT hS0 (below_drw (Below.refl _ _) 1) | exact keepT (by assumption) (by assumption))
    (first
      | (go_at_call 16; refine (k16 _).mono ?_; rintro e w4 ⟨a4, c4, rfl, o4, n4, b4⟩; clear k16)
      | (go_at_call 17; refine (k17 _).mono ?_; rintro e w5 ⟨a5, c5, rfl, o5, n5, b5⟩; clear k17)
      | (go_at_call 9; refine (k9 _ _ _ _ _ (o4.rd.below b5) o5.rd).mono ?_; rintro e w6 ⟨rfl, n6, hw6⟩; clear k9; have b6 : Below w5.heap.size w5 w6 := (by rw [hw6]; exact below_drw (Below.refl _ _) n6); have HX6 := hide hw6; clear hw6))
  have b36 := (‹w6.cell? ⟨Bn, 0, none⟩ = _ ∧ _ ∧ Below w3.heap.size w3 w6›).2.2
  have H6 := hide b36
  clear b36 o4 o5 b4 b5 b6 hS0
  have hrow : ∀ g off, a2 = some ⟨g, off, none⟩ → off = 0 ∧ w1.heap.size ≤ g ∧ g < w2.heap.size ∧ ∃ cur, w6.heap[g]? = some (.cells cur 2 (0, 0)) ∧ N ≤ cur.size := by
    rintro g off rfl
    rcases H2.out.1.2 with ⟨q, _⟩ | ⟨g', cap, cur, q, hb, hg, q1, q2, q3, q4⟩
    · cases q
    · simp only [Value.slice.injEq, Option.some.injEq, Addr.mk.injEq] at q
      obtain ⟨⟨rfl, rfl, -⟩, _, rfl⟩ := q
      have hlt := (Array.getElem?_eq_some_iff.1 hg).1
      have hb3 := H3.out.2.2.2.2.2.1
      refine ⟨rfl, hb, hlt, cur, (H6.out.block _ (Nat.lt_of_lt_of_le hlt hb3.size)).trans ((hb3.block _ hlt).trans hg), ?_⟩
      rw [q3, ← HW.out.2.1] at *
      omega
  have hnone : N ≠ 0 → ∃ g, a2 = some ⟨g, 0, none⟩ := by
    intro hne
    rcases H2.out.1.2 with ⟨_, q⟩ | ⟨g', cap, cur, q, _⟩
    · exact absurd (HW.out.2.1.trans q) hne
    · simp only [Value.slice.injEq] at q; exact ⟨g', q.1⟩
  replace hrow := hide (And.intro hrow hnone)
  clear hnone
  go_wp2
  go_loopw [9] (fun i wr => ∃ k : Nat, k ≤ N ∧ i = .int .i64 k ∧ Hid (Only (fun j => ∃ g, a2 = some ⟨g, 0, none⟩ ∧ j = g) w6 wr ∧ ∀ g, a2 = some ⟨g, 0, none⟩ → ∃ cur, wr.heap[g]? = some (.cells cur 2 (0, 0)) ∧ N ≤ cur.size)) (fun i _ => N - (intOf i).toNat)
  case atStart => exact ⟨0, Nat.zero_le _, rfl, hide ⟨Only.refl _ _, fun g e => (hrow.out.1 g 0 e).2.2.2⟩⟩
  case round =>
    obtain ⟨k, hk, rfl, hOw⟩ := hrel
    by_cases hlt : k < N
    · have d1 : decide (k < N) = true := by simpa using hlt
      have d1' : (k : Int) < (N : Int) := by omega
      obtain ⟨g, rfl⟩ := hrow.out.2 (by omega)
      obtain ⟨cur, hcur, hsz⟩ := hOw.out.2 g rfl
      have f0 := frozen_of_row _ _ k _ 2 hcur
      have g0 : ∃ u, wr.cell? ⟨g, k, none⟩ = some u := ⟨_, (cell_of_row _ _ k _ 2 (0, 0) hcur).trans (Array.getElem?_eq_getElem (show k < cur.size by omega))⟩
      obtain ⟨u, g0⟩ := g0
      obtain ⟨s1, o1⟩ := set_one (i := k) (.int .i64 99) hcur
      have HS := hide (And.intro s1 o1)
      clear s1 o1 hcur
      go_wp2
      go_roundw
      case rel => exact ⟨k + 1, by omega, by go_num, hide ⟨hOw.out.1.next (HS.out.2.mono (fun j _ e => ⟨g, rfl, e⟩)), fun g' e => by cases e; exact ⟨_, HS.out.1, by simpa using hsz⟩⟩⟩
      case measure => simp [intOf]; omega
    · obtain rfl : k = N := by omega
      clear hlt hk
      have d1 : ¬ ((k : Int) < (k : Int)) := by omega
      obtain ⟨wC, rfl⟩ : ∃ wC, wC = wr := ⟨_, rfl⟩
      have hnotg : ∀ j, (∃ g, a2 = some ⟨g, 0, none⟩ ∧ j = g) → w1.heap.size ≤ j ∧ j < w2.heap.size := fun j ⟨g, e, hj⟩ => by
        have := hrow.out.1 g 0 e; omega
      have b16 : Below w1.heap.size w1 w6 := H3.out.2.2.2.2.2.2.trans (H6.out.mono H3.out.2.2.2.2.2.2.size)
      have b1C : Below w1.heap.size w1 wC := Below.only b16 hOw.out.1 b16.size (fun j e => (hnotg j e).1)
      have hL2 := H3.out.2.2.2.1
      have c1 : wC.cell? ⟨L, 0, none⟩ = some (.int .i64 n) := hOw.out.1.cell (cell_stays H3.out.1 H6.out) (fun e => by have := hnotg _ e; simp only at this; omega)
      have c2' : wC.cell? ⟨L + 1, 0, none⟩ = some (.slice a' k c') := hOw.out.1.cell (cell_stays H3.out.2.1 H6.out) (fun e => by have := hnotg _ e; simp only at this; omega)
      have c3 : Nd wC a' l := hOw.out.1.nd (H3.out.2.2.1.below H6.out) (fun a e d => by have := hnotg _ d; have := H3.out.2.2.2.2.1 a e; omega)
      have HC := hide (And.intro b1C (And.intro c1 (And.intro c2' c3)))
      clear b16 b1C hL2 c1 c2' c3 hnotg hOw hrow hfn
      have HKL : Hid (∀ j, KS a' l L (L + 1) j → j < wC.heap.size) := hide (fun j hj => by
        rcases hj with rfl | rfl | ⟨a, e, hne, rfl⟩
        · exact World.block_lt_of_cell? wC _ HC.out.2.1
        · exact World.block_lt_of_cell? wC _ HC.out.2.2.1
        · exact HC.out.2.2.2.blk_lt hne a e)
      have HFA : Hid (∀ W, Below wC.heap.size wC W → Below w1.heap.size w1 W ∧ W.cell? ⟨L, 0, none⟩ = some (.int .i64 n) ∧ W.cell? ⟨L + 1, 0, none⟩ = some (.slice a' l.length c') ∧ Nd W a' l) := hide (fun W hW => by
        refine ⟨HC.out.1.trans (hW.mono HC.out.1.size), cell_stays HC.out.2.1 hW, ?_, HC.out.2.2.2.below hW⟩
        rw [← HW.out.2.1]
        exact cell_stays HC.out.2.2.1 hW)
      have HSZ : Hid (Bn < wC.heap.size ∧ Bl < wC.heap.size ∧ Bv < wC.heap.size ∧ Br < wC.heap.size ∧ w.heap.size ≤ wC.heap.size ∧ w.heap.size ≤ Br) := hide (by
        have := HC.out.1.size
        obtain ⟨-, -, -, q1, -, q2, q3, q4, q5, -⟩ := HW.out
        omega)
      have HB0 : Hid (Below wC.heap.size wC wC) := hide (Below.refl _ _)
      clear d1
      go_wp2
      refine wp_loop_rounds 3 ?_
      rw [rounds_succ]
      go_wp2

      obtain ⟨wA0, hwA⟩ : ∃ q, q = (wC.alloc (.cells #[.int .i64 0] 3)).alloc (.cells #[.int .i64 0] 3) := ⟨_, rfl⟩
      obtain ⟨g0, g1⟩ := new2 wC (.cells #[.int .i64 0] 3) (.cells #[.int .i64 0] 3)
      have bA : Below wC.heap.size wC wA0 := by rw [hwA]; exact ((Below.refl _ wC).alloc (Nat.le_refl _) _).alloc (by simp) _
      rw [← hwA] at g0 g1 ⊢
      have hsA : wA0.heap.size = wC.heap.size + 2 := by rw [hwA]; simp
      obtain ⟨Tb0, hTb⟩ : ∃ q, q = wC.heap.size := ⟨_, rfl⟩
      obtain ⟨Nb0, hNb⟩ : ∃ q, q = wC.heap.size + 1 := ⟨_, rfl⟩
      rw [← hNb] at g1 ⊢
      rw [← hTb] at g0 ⊢
      have bCA : Below wC.heap.size wC wA0 := HB0.out.trans (bA.mono HB0.out.size)
      have hBC : wC.heap.size ≤ wC.heap.size := HB0.out.size
      obtain ⟨f1, f2, f3, f4⟩ := HFA.out wA0 bCA
      have hit := steps_iter n l a' c' L (L + 1) wA0 (by have := HW.out.2.1; omega) f2 f3 f4
      have hI0 : TI wA0 Nb0 0 wA0 := ⟨Only.refl _ _, g1⟩
      have g0c : wA0.cell? ⟨Tb0, 0, none⟩ = some (.int .i64 0) := (cell_of_row _ _ 0 _ 3 (0, 0) g0).trans rfl
      have HSA0 : Hid (Tb0 < wA0.heap.size ∧ Nb0 < wA0.heap.size ∧ Tb0 ≠ Nb0 ∧ wC.heap.size ≤ Tb0 ∧ wC.heap.size ≤ Nb0 ∧ wC.heap.size ≤ Nb0 ∧ wC.heap.size ≤ wA0.heap.size) := hide (by omega)
      have HG0 := hide (And.intro g0c (And.intro f1 (And.intro bCA bA)))
      clear g0 g1 bA hsA hTb hNb bCA hBC f1 f2 f3 f4 g0c hwA
      refine range_itb (Q := _) 4 22 enters22 _ (stepsL n l) encS _ hit rfl (fun _ _ => rfl) (fun j hj => by have := HKL.out j hj; have := HSA0.out; omega) (fun j => j = Nb0) (fun j e hj => by have := HKL.out j hj; have := HSA0.out; omega) (fun j e => by have := HSA0.out; omega)
        (TI wA0 Nb0) (fun W => ((0 : Nat) = 0) ∧ ∃ q : Nat, (q : Int) = leave ∧ TI wA0 Nb0 q W) (fun W => ∃ q : Nat, (q = k ∨ ((0 : Nat) = 0 ∧ (q : Int) = leave)) ∧ TI wA0 Nb0 q W)
        (fun q W W' hi ho => hi.other HSA0.out.2.1 ho) (fun W W' hi ho => ⟨hi.1, hi.2.choose, hi.2.choose_spec.1, hi.2.choose_spec.2.other HSA0.out.2.1 ho⟩) hI0 ?hround0 (fun _ _ h => h) (fun W h => ⟨_, .inl (by rw [stepsL_len]; exact HW.out.2.1.symm), h⟩) (fun W h => ⟨_, .inr ⟨h.1, h.2.choose_spec.1⟩, h.2.choose_spec.2⟩) ?hdone0
      case hround0 =>
        as_aux_lemma =>
          rintro q x W hx hi hSame hsz
          obtain ⟨hq, rfl⟩ := stepsL_at hx
          rw [← HW.out.2.1] at hq
          clear hit hI0 hSame hx
          dsimp only [encS]
          gi_wp2
          refine ⟨Only.refl _ _, fun W2 ho2 => ?_⟩
          have hi2 := hi.other HSA0.out.2.1 ho2
          clear ho2 hi hsz
          obtain ⟨a0, a1, a2', a3, a4', a5'⟩ := FA.out wA0 HG0.out.2.1
          have t0 := hi2.only.cell a0 (by have := HSA0.out; have := HSZ.out; simp only; omega)
          have t1 := hi2.only.cell a1 (by have := HSA0.out; have := HSZ.out; simp only; omega)
          have t2 := hi2.only.cell a2' (by have := HSA0.out; have := HSZ.out; simp only; omega)
          have tt := hi2.only.cell HG0.out.1 (by have := HSA0.out; have := HSZ.out; simp only; omega)
          have tn : Nd W2 ao l := (HW.out.2.2.1.below (by exact a5')).same (K := fun j => j < w.heap.size) (fun j hj => hi2.only.block j (Nat.lt_of_lt_of_le hj a5'.size) (by have := HSA0.out; have := HSZ.out; omega)) (fun a e hne => HW.out.2.2.1.blk_lt hne a e)
          have nc : W2.cell? ⟨Nb0, 0, none⟩ = some (.int .i64 (q : Int)) := (cell_of_row _ _ 0 _ 3 (0, 0) hi2.n).trans rfl
          have hqc : q + 1 ≤ c := by have := HW.out.2.2.2.2.1; omega
          have hsl := fun W' => slice_succ (ao := ao) (n := k) (c := c) (q := q) hqc (nil_cap HW.out.2.2.1 HW.out.2.1 (by omega)) W'
          have hqi : 0 ≤ (q : Int) + 1 ∧ (q : Int) + 1 ≤ (c : Int) := by omega
          have htk : (l.take (q + 1)).length = q + 1 := by rw [List.length_take, ← HW.out.2.1]; omega
          have hsu := fun (W' : World) (hW : Below W2.heap.size W2 W') => refSum_any (c := c) ((tn.take (q + 1)).below hW) (by rw [htk]; omega)
          rw [htk] at hsu
          obtain ⟨Y, hY⟩ : ∃ Y, Y = sumN 0 (l.take (q + 1)) := ⟨_, rfl⟩
          obtain ⟨X, hX⟩ : ∃ X, X = sumN n (l.take (q + 1)) := ⟨_, rfl⟩
          obtain ⟨hXY, hXY'⟩ := steps_eq hn (l.take (q + 1))
          rw [← hX, ← hY] at hXY hXY'
          simp only [← hY] at hsu
          rw [← hX]
          obtain ⟨wq, wq', hge, hge'⟩ := wrap_succ hq hl
          have HI2 := hide hi2
          have HTT := hide (And.intro tt (And.intro t2 (And.intro htk hX)))
          have HTN := hide tn
          clear hi2 tt t2 tn a0 a1 a2' a3 a4' a5' htk hX hY
          have qd : W2.drew.cell? ⟨Bn, 0, none⟩ = some (.int .i64 n) ∧ W2.drew.cell? ⟨Bl, 0, none⟩ = some (.slice ao k c) ∧ W2.drew.cell? ⟨Nb0, 0, none⟩ = some (.int .i64 (q : Int)) ∧ Below W2.heap.size W2 W2.drew := ⟨t0, t1, nc, drew_below W2⟩
          clear t0 t1 nc
          gi_wp2
          refine region_in (S := (fun w' => w'.cell? ⟨Bn, 0, none⟩ = some (.int .i64 n) ∧ w'.cell? ⟨Bl, 0, none⟩ = some (.slice ao k c) ∧ w'.cell? ⟨Nb0, 0, none⟩ = some (.int .i64 (q : Int)) ∧ Below W2.heap.size W2 w')) (by kernel_rfl) (by kernel_rfl) (by intro _ _ h; exact h) qd (fun hHeld => ?_)
          try dsimp only at hHeld
          refine take_op (i := 0) (d := 51) (OP := Op.load 3 (Operand.tmp 11)) (T := 3) (v := ?vzz1) rfl rfl rfl rfl (by kernel_rfl) (by kernel_rfl) (by kernel_rfl) (fun _ _ _ h => h) (by rfl) ?hzz1 hHeld ?rzz1
          case hzz1 => (intro w' hSw; (try dsimp only at hSw); go_simp <;> with_reducible rfl)
          try simp only [Act.put, List.setIfInBounds_toArray, List.set_cons_zero, List.set_cons_succ]
          refine take_op (i := 1) (d := 52) (OP := Op.load 23 (Operand.tmp 4)) (T := 23) (v := ?vzz2) rfl rfl rfl rfl (by kernel_rfl) (by kernel_rfl) (by kernel_rfl) (fun _ _ _ h => h) (by rfl) ?hzz2 hHeld ?rzz2
          case hzz2 => (intro w' hSw; (try dsimp only at hSw); go_simp <;> with_reducible rfl)
          try simp only [Act.put, List.setIfInBounds_toArray, List.set_cons_zero, List.set_cons_succ]
          refine take_op (i := 2) (d := 53) (OP := Op.call { callee := Callee.builtin Builtin.len, args := #[Operand.tmp 52], argTypes := #[23] }) (T := 3) (v := ?vzz3) rfl rfl rfl rfl (by kernel_rfl) (by kernel_rfl) (by kernel_rfl) (fun _ _ _ h => h) (by rfl) ?hzz3 hHeld ?rzz3
          case hzz3 => (intro w' hSw; (try dsimp only at hSw); go_simp <;> with_reducible rfl)
          try simp only [Act.put, List.setIfInBounds_toArray, List.set_cons_zero, List.set_cons_succ]
          refine take_op (i := 3) (d := 54) (OP := Op.binOp BinOp.geq 3 (Operand.tmp 51) (Operand.tmp 53) 3) (T := 4) (v := ?vzz4) rfl rfl rfl rfl (by kernel_rfl) (by kernel_rfl) (by kernel_rfl) (fun _ _ _ h => h) (by rfl) ?hzz4 hHeld ?rzz4
          case hzz4 => (intro w' hSw; (try dsimp only at hSw); go_simp <;> with_reducible rfl)
          try simp only [Act.put, List.setIfInBounds_toArray, List.set_cons_zero, List.set_cons_succ]
          refine take_op (i := 4) (d := 55) (OP := Op.move (Operand.tmp 54)) (T := 4) (v := ?vzz5) rfl rfl rfl rfl (by kernel_rfl) (by kernel_rfl) (by kernel_rfl) (fun _ _ _ h => h) (by rfl) ?hzz5 hHeld ?rzz5
          case hzz5 => (intro w' hSw; (try dsimp only at hSw); go_simp <;> with_reducible rfl)
          try simp only [Act.put, List.setIfInBounds_toArray, List.set_cons_zero, List.set_cons_succ]
          refine take_op (i := 5) (d := 56) (OP := Op.move (Operand.tmp 12)) (T := 3) (v := ?vzz6) rfl rfl rfl rfl (by kernel_rfl) (by kernel_rfl) (by kernel_rfl) (fun _ _ _ h => h) (by rfl) ?hzz6 hHeld ?rzz6
          case hzz6 => (intro w' hSw; (try dsimp only at hSw); go_simp <;> with_reducible rfl)
          try simp only [Act.put, List.setIfInBounds_toArray, List.set_cons_zero, List.set_cons_succ]
          refine take_op (i := 6) (d := 57) (OP := Op.load 3 (Operand.tmp 11)) (T := 3) (v := ?vzz7) rfl rfl rfl rfl (by kernel_rfl) (by kernel_rfl) (by kernel_rfl) (fun _ _ _ h => h) (by rfl) ?hzz7 hHeld ?rzz7
          case hzz7 => (intro w' hSw; (try dsimp only at hSw); go_simp <;> with_reducible rfl)
          try simp only [Act.put, List.setIfInBounds_toArray, List.set_cons_zero, List.set_cons_succ]
          refine take_op (i := 7) (d := 58) (OP := Op.binOp BinOp.neq 3 (Operand.tmp 56) (Operand.tmp 57) 3) (T := 4) (v := ?vzz8) rfl rfl rfl rfl (by kernel_rfl) (by kernel_rfl) (by kernel_rfl) (fun _ _ _ h => h) (by rfl) ?hzz8 hHeld ?rzz8
          case hzz8 => (intro w' hSw; (try dsimp only at hSw); go_simp <;> with_reducible rfl)
          try simp only [Act.put, List.setIfInBounds_toArray, List.set_cons_zero, List.set_cons_succ]
          refine take_op (i := 8) (d := 59) (OP := Op.pick (Operand.tmp 55) (Operand.const (Value.bool true)) (Operand.tmp 58)) (T := 4) (v := ?vzz9) rfl rfl rfl rfl (by kernel_rfl) (by kernel_rfl) (by kernel_rfl) (fun _ _ _ h => h) (by rfl) ?hzz9 hHeld ?rzz9
          case hzz9 => (intro w' hSw; (try dsimp only at hSw); go_simp <;> with_reducible rfl)
          try simp only [Act.put, List.setIfInBounds_toArray, List.set_cons_zero, List.set_cons_succ]
          refine take_op (i := 9) (d := 60) (OP := Op.move (Operand.tmp 59)) (T := 4) (v := ?vzz10) rfl rfl rfl rfl (by kernel_rfl) (by kernel_rfl) (by kernel_rfl) (fun _ _ _ h => h) (by rfl) ?hzz10 hHeld ?rzz10
          case hzz10 => (intro w' hSw; (try dsimp only at hSw); go_simp <;> with_reducible rfl)
          try simp only [Act.put, List.setIfInBounds_toArray, List.set_cons_zero, List.set_cons_succ]
          refine take_op (i := 10) (d := 61) (OP := Op.move (Operand.tmp 13)) (T := 2) (v := ?vzz11) rfl rfl rfl rfl (by kernel_rfl) (by kernel_rfl) (by kernel_rfl) (fun _ _ _ h => h) (by rfl) ?hzz11 hHeld ?rzz11
          case hzz11 => (intro w' hSw; (try dsimp only at hSw); go_simp <;> with_reducible rfl)
          try simp only [Act.put, List.setIfInBounds_toArray, List.set_cons_zero, List.set_cons_succ]
          refine take_op (i := 11) (d := 62) (OP := Op.load 2 (Operand.tmp 3)) (T := 2) (v := ?vzz12) rfl rfl rfl rfl (by kernel_rfl) (by kernel_rfl) (by kernel_rfl) (fun _ _ _ h => h) (by rfl) ?hzz12 hHeld ?rzz12
          case hzz12 => (intro w' hSw; (try dsimp only at hSw); go_simp <;> with_reducible rfl)
          try simp only [Act.put, List.setIfInBounds_toArray, List.set_cons_zero, List.set_cons_succ]
          refine take_op (i := 12) (d := 63) (OP := Op.load 23 (Operand.tmp 4)) (T := 23) (v := ?vzz13) rfl rfl rfl rfl (by kernel_rfl) (by kernel_rfl) (by kernel_rfl) (fun _ _ _ h => h) (by rfl) ?hzz13 hHeld ?rzz13
          case hzz13 => (intro w' hSw; (try dsimp only at hSw); go_simp <;> with_reducible rfl)
          try simp only [Act.put, List.setIfInBounds_toArray, List.set_cons_zero, List.set_cons_succ]
          refine take_op (i := 13) (d := 64) (OP := Op.load 3 (Operand.tmp 11)) (T := 3) (v := ?vzz14) rfl rfl rfl rfl (by kernel_rfl) (by kernel_rfl) (by kernel_rfl) (fun _ _ _ h => h) (by rfl) ?hzz14 hHeld ?rzz14
          case hzz14 => (intro w' hSw; (try dsimp only at hSw); go_simp <;> with_reducible rfl)
          try simp only [Act.put, List.setIfInBounds_toArray, List.set_cons_zero, List.set_cons_succ]
          refine take_op (i := 14) (d := 65) (OP := Op.binOp BinOp.add 3 (Operand.tmp 64) (Operand.const (Value.int IntKind.i64 1)) 3) (T := 3) (v := ?vzz15) rfl rfl rfl rfl (by kernel_rfl) (by kernel_rfl) (by kernel_rfl) (fun _ _ _ h => h) (by rfl) ?hzz15 hHeld ?rzz15
          case hzz15 => (intro w' hSw; (try dsimp only at hSw); go_simp <;> with_reducible rfl)
          try simp only [Act.put, List.setIfInBounds_toArray, List.set_cons_zero, List.set_cons_succ]
          refine take_op (i := 15) (d := 66) (OP := Op.slice 23 (Operand.tmp 63) none (some (Operand.tmp 65)) none) (T := 23) (v := ?vzz16) rfl rfl rfl rfl (by kernel_rfl) (by kernel_rfl) (by kernel_rfl) (fun _ _ _ h => h) (by rfl) ?hzz16 hHeld ?rzz16
          case hzz16 => (intro w' hSw; (try dsimp only at hSw); go_simp <;> with_reducible rfl)
          try simp only [Act.put, List.setIfInBounds_toArray, List.set_cons_zero, List.set_cons_succ]
          refine call_op (i := 16) (d := 67) (OP := Op.call { callee := Callee.value (Operand.func 10), args := #[Operand.tmp 66], argTypes := #[23] }) (T := 2) (f := 10) (args := #[.slice ao (q + 1) c]) rfl rfl rfl rfl (by kernel_rfl) (by rfl) (by go_simp) ?_
          refine (hsu _ hHeld.2.2.2).mono ?_
          rintro e z0 ⟨rfl, rfl⟩
          refine ⟨_, rfl, hHeld, ?_⟩
          try simp only [Act.put, List.setIfInBounds_toArray, List.set_cons_zero, List.set_cons_succ]
          refine take_op (i := 17) (d := 68) (OP := Op.binOp BinOp.add 2 (Operand.tmp 62) (Operand.tmp 67) 2) (T := 2) (v := ?vzz17) rfl rfl rfl rfl (by kernel_rfl) (by kernel_rfl) (by kernel_rfl) (fun _ _ _ h => h) (by rfl) ?hzz17 hHeld ?rzz17
          case hzz17 => (intro w' hSw; (try dsimp only at hSw); go_simp <;> with_reducible rfl)
          try simp only [Act.put, List.setIfInBounds_toArray, List.set_cons_zero, List.set_cons_succ]
          refine take_op (i := 18) (d := 69) (OP := Op.binOp BinOp.neq 2 (Operand.tmp 61) (Operand.tmp 68) 2) (T := 4) (v := ?vzz18) rfl rfl rfl rfl (by kernel_rfl) (by kernel_rfl) (by kernel_rfl) (fun _ _ _ h => h) (by rfl) ?hzz18 hHeld ?rzz18
          case hzz18 => (intro w' hSw; (try dsimp only at hSw); go_simp <;> with_reducible rfl)
          try simp only [Act.put, List.setIfInBounds_toArray, List.set_cons_zero, List.set_cons_succ]
          refine take_op (i := 19) (d := 70) (OP := Op.pick (Operand.tmp 60) (Operand.const (Value.bool true)) (Operand.tmp 69)) (T := 4) (v := ?vzz19) rfl rfl rfl rfl (by kernel_rfl) (by kernel_rfl) (by kernel_rfl) (fun _ _ _ h => h) (by rfl) ?hzz19 hHeld ?rzz19
          case hzz19 => (intro w' hSw; (try dsimp only at hSw); go_simp <;> with_reducible rfl)
          try simp only [Act.put, List.setIfInBounds_toArray, List.set_cons_zero, List.set_cons_succ]
          refine wpAnyH_done (by kernel_rfl) ?_ _
          have hb2 := hHeld.2.2.2
          clear hHeld qd hsu hsl hqi hXY hXY' wq wq'
          obtain ⟨Z0, hZ0⟩ : ∃ Z, Z = W2.drew := ⟨_, rfl⟩
          rw [← hZ0] at hb2 ⊢
          clear hZ0
          obtain ⟨⟨e1, e2⟩, e3, hO, hT⟩ := HI2.out.step (Z := Z0) hb2
          have hO2 := hO.cell (HTT.out.1) (by have := HSA0.out; simp only; omega)
          have hO3 := hO.cell (HTT.out.2.1) (by have := HSA0.out; have := HSZ.out; simp only; omega)
          have HC2 := hide (And.intro hO hT)
          have hq0 : (q : Int) ≤ 1000 := by omega
          clear hO hT hb2
          by_cases hlv : ((q : Int) + 1) = leave
          · have d1 : (((q : Int) + 1) == leave) = true := by simpa using hlv
            have HLV := hide hlv
            clear hlv
            gi_wp2
            exact ⟨HC2.out.1, rfl, by first | trivial | rfl, q + 1, by have := HLV.out; omega, HC2.out.2⟩
          · have d1 : (((q : Int) + 1) == leave) = false := by simpa using hlv
            clear hlv
            gi_wp2
            exact HC2.out
      case hdone0 =>
        intro wv0 hJ hlsv hK0
        obtain ⟨j, hj, hi⟩ := hJ
        have nc : wv0.cell? ⟨Nb0, 0, none⟩ = some (.int .i64 (j : Int)) := (cell_of_row _ _ 0 _ 3 (0, 0) hi.n).trans rfl
        obtain ⟨-, a1, a2', -, -, -⟩ := FA.out wA0 HG0.out.2.1
        have tc := hi.only.cell HG0.out.1 (by have := HSA0.out; simp only; omega)
        have l1 := hi.only.cell a1 (by have := HSA0.out; have := HSZ.out; simp only; omega)
        have l2 := hi.only.cell a2' (by have := HSA0.out; have := HSZ.out; simp only; omega)
        clear a1 a2'
        have HB1 : Hid (Below wC.heap.size wC wv0) := hide (Below.only HG0.out.2.2.1 hi.only HG0.out.2.2.1.size (fun j d => by have := HSA0.out; omega))
        have HV := hide (And.intro hK0 hlsv)
        have hor2 : (((j : Int) == (k : Int)) = true ∧ ((j : Int) != (k : Int)) = false) ∨ (((j : Int) == (k : Int)) = false ∧ ((j : Int) != (k : Int)) = true ∧ ((j : Int) == leave) = true ∧ ((j : Int) != leave) = false) := by
          by_cases hjN : j = k
          · left; rw [hjN]; simp
          · right
            rcases hj with e | ⟨-, e⟩
            · exact absurd e hjN
            · refine ⟨by rw [beq_eq_false_iff_ne]; omega, ?_, by simpa using e, ?_⟩
              · rw [bne_iff_ne]; omega
              · rw [bne, show ((j : Int) == leave) = true by simpa using e]; rfl
        clear hit hI0 hi hj hK0 hlsv
        go_upto_region 22 with fail
        go_cut [102] from 80 to 102 (fun v102 wq => v102 = .bool false ∧ wq = wv0)
        case first =>
          rcases hor2 with ⟨q1, q2⟩ | ⟨q1, q2, q3, q4⟩
          · go_wp2
            go_meet
            exact ⟨rfl, rfl⟩
          · go_wp2
            go_meet
            exact ⟨rfl, rfl⟩
        case rest =>
          obtain ⟨rfl, hwf⟩ := hcut
          replace hwf := hwf.symm
          subst hwf
          clear hor2 nc l1 l2
          go_wp2
          rw [rounds_succ]
          go_wp2
          obtain ⟨wA1, hwA⟩ : ∃ q, q = (wv0.alloc (.cells #[.int .i64 1] 3)).alloc (.cells #[.int .i64 0] 3) := ⟨_, rfl⟩
          obtain ⟨g0, g1⟩ := new2 wv0 (.cells #[.int .i64 1] 3) (.cells #[.int .i64 0] 3)
          have bA : Below wv0.heap.size wv0 wA1 := by rw [hwA]; exact ((Below.refl _ wv0).alloc (Nat.le_refl _) _).alloc (by simp) _
          rw [← hwA] at g0 g1 ⊢
          have hsA : wA1.heap.size = wv0.heap.size + 2 := by rw [hwA]; simp
          obtain ⟨Tb1, hTb⟩ : ∃ q, q = wv0.heap.size := ⟨_, rfl⟩
          obtain ⟨Nb1, hNb⟩ : ∃ q, q = wv0.heap.size + 1 := ⟨_, rfl⟩
          rw [← hNb] at g1 ⊢
          rw [← hTb] at g0 ⊢
          have bCA : Below wC.heap.size wC wA1 := HB1.out.trans (bA.mono HB1.out.size)
          have hBC : wC.heap.size ≤ wv0.heap.size := HB1.out.size
          obtain ⟨f1, f2, f3, f4⟩ := HFA.out wA1 bCA
          have hit := steps_iter n l a' c' L (L + 1) wA1 (by have := HW.out.2.1; omega) f2 f3 f4
          have hI0 : TI wA1 Nb1 0 wA1 := ⟨Only.refl _ _, g1⟩
          have g0c : wA1.cell? ⟨Tb1, 0, none⟩ = some (.int .i64 1) := (cell_of_row _ _ 0 _ 3 (0, 0) g0).trans rfl
          have HSA1 : Hid (Tb1 < wA1.heap.size ∧ Nb1 < wA1.heap.size ∧ Tb1 ≠ Nb1 ∧ wC.heap.size ≤ Tb1 ∧ wC.heap.size ≤ Nb1 ∧ wv0.heap.size ≤ Nb1 ∧ wC.heap.size ≤ wA1.heap.size) := hide (by omega)
          have HG1 := hide (And.intro g0c (And.intro f1 (And.intro bCA bA)))
          clear g0 g1 bA hsA hTb hNb bCA hBC f1 f2 f3 f4 g0c hwA
          refine range_itb (Q := _) 4 22 enters22 _ (stepsL n l) encS _ hit rfl (fun _ _ => rfl) (fun j hj => by have := HKL.out j hj; have := HSA1.out; omega) (fun j => j = Nb1) (fun j e hj => by have := HKL.out j hj; have := HSA1.out; omega) (fun j e => by have := HSA1.out; omega)
            (TI wA1 Nb1) (fun W => ((1 : Nat) = 0) ∧ ∃ q : Nat, (q : Int) = leave ∧ TI wA1 Nb1 q W) (fun W => ∃ q : Nat, (q = k ∨ ((1 : Nat) = 0 ∧ (q : Int) = leave)) ∧ TI wA1 Nb1 q W)
            (fun q W W' hi ho => hi.other HSA1.out.2.1 ho) (fun W W' hi ho => ⟨hi.1, hi.2.choose, hi.2.choose_spec.1, hi.2.choose_spec.2.other HSA1.out.2.1 ho⟩) hI0 ?hround1 (fun _ _ h => h) (fun W h => ⟨_, .inl (by rw [stepsL_len]; exact HW.out.2.1.symm), h⟩) (fun W h => ⟨_, .inr ⟨h.1, h.2.choose_spec.1⟩, h.2.choose_spec.2⟩) ?hdone1
          case hround1 =>
            as_aux_lemma =>
              rintro q x W hx hi hSame hsz
              obtain ⟨hq, rfl⟩ := stepsL_at hx
              rw [← HW.out.2.1] at hq
              clear hit hI0 hSame hx
              dsimp only [encS]
              gi_wp2
              refine ⟨Only.refl _ _, fun W2 ho2 => ?_⟩
              have hi2 := hi.other HSA1.out.2.1 ho2
              clear ho2 hi hsz
              obtain ⟨a0, a1, a2', a3, a4', a5'⟩ := FA.out wA1 HG1.out.2.1
              have t0 := hi2.only.cell a0 (by have := HSA1.out; have := HSZ.out; simp only; omega)
              have t1 := hi2.only.cell a1 (by have := HSA1.out; have := HSZ.out; simp only; omega)
              have t2 := hi2.only.cell a2' (by have := HSA1.out; have := HSZ.out; simp only; omega)
              have tt := hi2.only.cell HG1.out.1 (by have := HSA1.out; have := HSZ.out; simp only; omega)
              have tn : Nd W2 ao l := (HW.out.2.2.1.below (by exact a5')).same (K := fun j => j < w.heap.size) (fun j hj => hi2.only.block j (Nat.lt_of_lt_of_le hj a5'.size) (by have := HSA1.out; have := HSZ.out; omega)) (fun a e hne => HW.out.2.2.1.blk_lt hne a e)
              have nc : W2.cell? ⟨Nb1, 0, none⟩ = some (.int .i64 (q : Int)) := (cell_of_row _ _ 0 _ 3 (0, 0) hi2.n).trans rfl
              have hqc : q + 1 ≤ c := by have := HW.out.2.2.2.2.1; omega
              have hsl := fun W' => slice_succ (ao := ao) (n := k) (c := c) (q := q) hqc (nil_cap HW.out.2.2.1 HW.out.2.1 (by omega)) W'
              have hqi : 0 ≤ (q : Int) + 1 ∧ (q : Int) + 1 ≤ (c : Int) := by omega
              have htk : (l.take (q + 1)).length = q + 1 := by rw [List.length_take, ← HW.out.2.1]; omega
              have hsu := fun (W' : World) (hW : Below W2.heap.size W2 W') => refSum_any (c := c) ((tn.take (q + 1)).below hW) (by rw [htk]; omega)
              rw [htk] at hsu
              obtain ⟨Y, hY⟩ : ∃ Y, Y = sumN 0 (l.take (q + 1)) := ⟨_, rfl⟩
              obtain ⟨X, hX⟩ : ∃ X, X = sumN n (l.take (q + 1)) := ⟨_, rfl⟩
              obtain ⟨hXY, hXY'⟩ := steps_eq hn (l.take (q + 1))
              rw [← hX, ← hY] at hXY hXY'
              simp only [← hY] at hsu
              rw [← hX]
              obtain ⟨wq, wq', hge, hge'⟩ := wrap_succ hq hl
              have HI2 := hide hi2
              have HTT := hide (And.intro tt (And.intro t2 (And.intro htk hX)))
              have HTN := hide tn
              clear hi2 tt t2 tn a0 a1 a2' a3 a4' a5' htk hX hY
              have qd : W2.drew.cell? ⟨Bn, 0, none⟩ = some (.int .i64 n) ∧ W2.drew.cell? ⟨Bl, 0, none⟩ = some (.slice ao k c) ∧ W2.drew.cell? ⟨Nb1, 0, none⟩ = some (.int .i64 (q : Int)) ∧ Below W2.heap.size W2 W2.drew := ⟨t0, t1, nc, drew_below W2⟩
              clear t0 t1 nc
              gi_wp2
              refine region_in (S := (fun w' => w'.cell? ⟨Bn, 0, none⟩ = some (.int .i64 n) ∧ w'.cell? ⟨Bl, 0, none⟩ = some (.slice ao k c) ∧ w'.cell? ⟨Nb1, 0, none⟩ = some (.int .i64 (q : Int)) ∧ Below W2.heap.size W2 w')) (by kernel_rfl) (by kernel_rfl) (by intro _ _ h; exact h) qd (fun hHeld => ?_)
              try dsimp only at hHeld
              refine take_op (i := 0) (d := 51) (OP := Op.load 3 (Operand.tmp 11)) (T := 3) (v := ?vzz20) rfl rfl rfl rfl (by kernel_rfl) (by kernel_rfl) (by kernel_rfl) (fun _ _ _ h => h) (by rfl) ?hzz20 hHeld ?rzz20
              case hzz20 => (intro w' hSw; (try dsimp only at hSw); go_simp <;> with_reducible rfl)
              try simp only [Act.put, List.setIfInBounds_toArray, List.set_cons_zero, List.set_cons_succ]
              refine take_op (i := 1) (d := 52) (OP := Op.load 23 (Operand.tmp 4)) (T := 23) (v := ?vzz21) rfl rfl rfl rfl (by kernel_rfl) (by kernel_rfl) (by kernel_rfl) (fun _ _ _ h => h) (by rfl) ?hzz21 hHeld ?rzz21
              case hzz21 => (intro w' hSw; (try dsimp only at hSw); go_simp <;> with_reducible rfl)
              try simp only [Act.put, List.setIfInBounds_toArray, List.set_cons_zero, List.set_cons_succ]
              refine take_op (i := 2) (d := 53) (OP := Op.call { callee := Callee.builtin Builtin.len, args := #[Operand.tmp 52], argTypes := #[23] }) (T := 3) (v := ?vzz22) rfl rfl rfl rfl (by kernel_rfl) (by kernel_rfl) (by kernel_rfl) (fun _ _ _ h => h) (by rfl) ?hzz22 hHeld ?rzz22
              case hzz22 => (intro w' hSw; (try dsimp only at hSw); go_simp <;> with_reducible rfl)
              try simp only [Act.put, List.setIfInBounds_toArray, List.set_cons_zero, List.set_cons_succ]
              refine take_op (i := 3) (d := 54) (OP := Op.binOp BinOp.geq 3 (Operand.tmp 51) (Operand.tmp 53) 3) (T := 4) (v := ?vzz23) rfl rfl rfl rfl (by kernel_rfl) (by kernel_rfl) (by kernel_rfl) (fun _ _ _ h => h) (by rfl) ?hzz23 hHeld ?rzz23
              case hzz23 => (intro w' hSw; (try dsimp only at hSw); go_simp <;> with_reducible rfl)
              try simp only [Act.put, List.setIfInBounds_toArray, List.set_cons_zero, List.set_cons_succ]
              refine take_op (i := 4) (d := 55) (OP := Op.move (Operand.tmp 54)) (T := 4) (v := ?vzz24) rfl rfl rfl rfl (by kernel_rfl) (by kernel_rfl) (by kernel_rfl) (fun _ _ _ h => h) (by rfl) ?hzz24 hHeld ?rzz24
              case hzz24 => (intro w' hSw; (try dsimp only at hSw); go_simp <;> with_reducible rfl)
              try simp only [Act.put, List.setIfInBounds_toArray, List.set_cons_zero, List.set_cons_succ]
              refine take_op (i := 5) (d := 56) (OP := Op.move (Operand.tmp 12)) (T := 3) (v := ?vzz25) rfl rfl rfl rfl (by kernel_rfl) (by kernel_rfl) (by kernel_rfl) (fun _ _ _ h => h) (by rfl) ?hzz25 hHeld ?rzz25
              case hzz25 => (intro w' hSw; (try dsimp only at hSw); go_simp <;> with_reducible rfl)
              try simp only [Act.put, List.setIfInBounds_toArray, List.set_cons_zero, List.set_cons_succ]
              refine take_op (i := 6) (d := 57) (OP := Op.load 3 (Operand.tmp 11)) (T := 3) (v := ?vzz26) rfl rfl rfl rfl (by kernel_rfl) (by kernel_rfl) (by kernel_rfl) (fun _ _ _ h => h) (by rfl) ?hzz26 hHeld ?rzz26
              case hzz26 => (intro w' hSw; (try dsimp only at hSw); go_simp <;> with_reducible rfl)
              try simp only [Act.put, List.setIfInBounds_toArray, List.set_cons_zero, List.set_cons_succ]
              refine take_op (i := 7) (d := 58) (OP := Op.binOp BinOp.neq 3 (Operand.tmp 56) (Operand.tmp 57) 3) (T := 4) (v := ?vzz27) rfl rfl rfl rfl (by kernel_rfl) (by kernel_rfl) (by kernel_rfl) (fun _ _ _ h => h) (by rfl) ?hzz27 hHeld ?rzz27
              case hzz27 => (intro w' hSw; (try dsimp only at hSw); go_simp <;> with_reducible rfl)
              try simp only [Act.put, List.setIfInBounds_toArray, List.set_cons_zero, List.set_cons_succ]
              refine take_op (i := 8) (d := 59) (OP := Op.pick (Operand.tmp 55) (Operand.const (Value.bool true)) (Operand.tmp 58)) (T := 4) (v := ?vzz28) rfl rfl rfl rfl (by kernel_rfl) (by kernel_rfl) (by kernel_rfl) (fun _ _ _ h => h) (by rfl) ?hzz28 hHeld ?rzz28
              case hzz28 => (intro w' hSw; (try dsimp only at hSw); go_simp <;> with_reducible rfl)
              try simp only [Act.put, List.setIfInBounds_toArray, List.set_cons_zero, List.set_cons_succ]
              refine take_op (i := 9) (d := 60) (OP := Op.move (Operand.tmp 59)) (T := 4) (v := ?vzz29) rfl rfl rfl rfl (by kernel_rfl) (by kernel_rfl) (by kernel_rfl) (fun _ _ _ h => h) (by rfl) ?hzz29 hHeld ?rzz29
              case hzz29 => (intro w' hSw; (try dsimp only at hSw); go_simp <;> with_reducible rfl)
              try simp only [Act.put, List.setIfInBounds_toArray, List.set_cons_zero, List.set_cons_succ]
              refine take_op (i := 10) (d := 61) (OP := Op.move (Operand.tmp 13)) (T := 2) (v := ?vzz30) rfl rfl rfl rfl (by kernel_rfl) (by kernel_rfl) (by kernel_rfl) (fun _ _ _ h => h) (by rfl) ?hzz30 hHeld ?rzz30
              case hzz30 => (intro w' hSw; (try dsimp only at hSw); go_simp <;> with_reducible rfl)
              try simp only [Act.put, List.setIfInBounds_toArray, List.set_cons_zero, List.set_cons_succ]
              refine take_op (i := 11) (d := 62) (OP := Op.load 2 (Operand.tmp 3)) (T := 2) (v := ?vzz31) rfl rfl rfl rfl (by kernel_rfl) (by kernel_rfl) (by kernel_rfl) (fun _ _ _ h => h) (by rfl) ?hzz31 hHeld ?rzz31
              case hzz31 => (intro w' hSw; (try dsimp only at hSw); go_simp <;> with_reducible rfl)
              try simp only [Act.put, List.setIfInBounds_toArray, List.set_cons_zero, List.set_cons_succ]
              refine take_op (i := 12) (d := 63) (OP := Op.load 23 (Operand.tmp 4)) (T := 23) (v := ?vzz32) rfl rfl rfl rfl (by kernel_rfl) (by kernel_rfl) (by kernel_rfl) (fun _ _ _ h => h) (by rfl) ?hzz32 hHeld ?rzz32
              case hzz32 => (intro w' hSw; (try dsimp only at hSw); go_simp <;> with_reducible rfl)
              try simp only [Act.put, List.setIfInBounds_toArray, List.set_cons_zero, List.set_cons_succ]
              refine take_op (i := 13) (d := 64) (OP := Op.load 3 (Operand.tmp 11)) (T := 3) (v := ?vzz33) rfl rfl rfl rfl (by kernel_rfl) (by kernel_rfl) (by kernel_rfl) (fun _ _ _ h => h) (by rfl) ?hzz33 hHeld ?rzz33
              case hzz33 => (intro w' hSw; (try dsimp only at hSw); go_simp <;> with_reducible rfl)
              try simp only [Act.put, List.setIfInBounds_toArray, List.set_cons_zero, List.set_cons_succ]
              refine take_op (i := 14) (d := 65) (OP := Op.binOp BinOp.add 3 (Operand.tmp 64) (Operand.const (Value.int IntKind.i64 1)) 3) (T := 3) (v := ?vzz34) rfl rfl rfl rfl (by kernel_rfl) (by kernel_rfl) (by kernel_rfl) (fun _ _ _ h => h) (by rfl) ?hzz34 hHeld ?rzz34
              case hzz34 => (intro w' hSw; (try dsimp only at hSw); go_simp <;> with_reducible rfl)
              try simp only [Act.put, List.setIfInBounds_toArray, List.set_cons_zero, List.set_cons_succ]
              refine take_op (i := 15) (d := 66) (OP := Op.slice 23 (Operand.tmp 63) none (some (Operand.tmp 65)) none) (T := 23) (v := ?vzz35) rfl rfl rfl rfl (by kernel_rfl) (by kernel_rfl) (by kernel_rfl) (fun _ _ _ h => h) (by rfl) ?hzz35 hHeld ?rzz35
              case hzz35 => (intro w' hSw; (try dsimp only at hSw); go_simp <;> with_reducible rfl)
              try simp only [Act.put, List.setIfInBounds_toArray, List.set_cons_zero, List.set_cons_succ]
              refine call_op (i := 16) (d := 67) (OP := Op.call { callee := Callee.value (Operand.func 10), args := #[Operand.tmp 66], argTypes := #[23] }) (T := 2) (f := 10) (args := #[.slice ao (q + 1) c]) rfl rfl rfl rfl (by kernel_rfl) (by rfl) (by go_simp) ?_
              refine (hsu _ hHeld.2.2.2).mono ?_
              rintro e z0 ⟨rfl, rfl⟩
              refine ⟨_, rfl, hHeld, ?_⟩
              try simp only [Act.put, List.setIfInBounds_toArray, List.set_cons_zero, List.set_cons_succ]
              refine take_op (i := 17) (d := 68) (OP := Op.binOp BinOp.add 2 (Operand.tmp 62) (Operand.tmp 67) 2) (T := 2) (v := ?vzz36) rfl rfl rfl rfl (by kernel_rfl) (by kernel_rfl) (by kernel_rfl) (fun _ _ _ h => h) (by rfl) ?hzz36 hHeld ?rzz36
              case hzz36 => (intro w' hSw; (try dsimp only at hSw); go_simp <;> with_reducible rfl)
              try simp only [Act.put, List.setIfInBounds_toArray, List.set_cons_zero, List.set_cons_succ]
              refine take_op (i := 18) (d := 69) (OP := Op.binOp BinOp.neq 2 (Operand.tmp 61) (Operand.tmp 68) 2) (T := 4) (v := ?vzz37) rfl rfl rfl rfl (by kernel_rfl) (by kernel_rfl) (by kernel_rfl) (fun _ _ _ h => h) (by rfl) ?hzz37 hHeld ?rzz37
              case hzz37 => (intro w' hSw; (try dsimp only at hSw); go_simp <;> with_reducible rfl)
              try simp only [Act.put, List.setIfInBounds_toArray, List.set_cons_zero, List.set_cons_succ]
              refine take_op (i := 19) (d := 70) (OP := Op.pick (Operand.tmp 60) (Operand.const (Value.bool true)) (Operand.tmp 69)) (T := 4) (v := ?vzz38) rfl rfl rfl rfl (by kernel_rfl) (by kernel_rfl) (by kernel_rfl) (fun _ _ _ h => h) (by rfl) ?hzz38 hHeld ?rzz38
              case hzz38 => (intro w' hSw; (try dsimp only at hSw); go_simp <;> with_reducible rfl)
              try simp only [Act.put, List.setIfInBounds_toArray, List.set_cons_zero, List.set_cons_succ]
              refine wpAnyH_done (by kernel_rfl) ?_ _
              have hb2 := hHeld.2.2.2
              clear hHeld qd hsu hsl hqi hXY hXY' wq wq'
              obtain ⟨Z0, hZ0⟩ : ∃ Z, Z = W2.drew := ⟨_, rfl⟩
              rw [← hZ0] at hb2 ⊢
              clear hZ0
              obtain ⟨⟨e1, e2⟩, e3, hO, hT⟩ := HI2.out.step (Z := Z0) hb2
              have hO2 := hO.cell (HTT.out.1) (by have := HSA1.out; simp only; omega)
              have hO3 := hO.cell (HTT.out.2.1) (by have := HSA1.out; have := HSZ.out; simp only; omega)
              have HC2 := hide (And.intro hO hT)
              have hq0 : (q : Int) ≤ 1000 := by omega
              clear hO hT hb2
              gi_wp2
              exact HC2.out
          case hdone1 =>
            intro wv1 hJ hlsv hK1
            obtain ⟨j, hj, hi⟩ := hJ
            have hjk : j = k := by
              rcases hj with e | ⟨e, -⟩
              · exact e
              · exact absurd e (by decide)
            subst hjk
            have nc : wv1.cell? ⟨Nb1, 0, none⟩ = some (.int .i64 (j : Int)) := (cell_of_row _ _ 0 _ 3 (0, 0) hi.n).trans rfl
            obtain ⟨-, a1, a2', -, -, -⟩ := FA.out wA1 HG1.out.2.1
            have tc := hi.only.cell HG1.out.1 (by have := HSA1.out; simp only; omega)
            have l1 := hi.only.cell a1 (by have := HSA1.out; have := HSZ.out; simp only; omega)
            have l2 := hi.only.cell a2' (by have := HSA1.out; have := HSZ.out; simp only; omega)
            clear a1 a2'
            have HB2 : Hid (Below wC.heap.size wC wv1) := hide (Below.only HG1.out.2.2.1 hi.only HG1.out.2.2.1.size (fun j d => by have := HSA1.out; omega))
            have bA1 := HG1.out.2.2.2
            have hK0 : wv1.heap[wA0.heap.size]? = some (.deferred (some [])) := (hi.only.block _ (Nat.lt_of_lt_of_le HV.out.2 bA1.size) (fun d => by have := HSA1.out; have := HV.out.2; omega)).trans ((bA1.block _ HV.out.2).trans HV.out.1)
            have hfin : ∀ W, Below wv1.heap.size wv1 W → W.cell? ⟨Br, 0, none⟩ = some (.bool false) ∧ W.frozen? ⟨Br, 0, none⟩ = false ∧ Hid (W.heap[Br]? = some (.cells #[.bool false] 4 (0, 0)) ∧ W.heap[wA0.heap.size]? = some (.deferred (some [])) ∧ W.heap[wA1.heap.size]? = some (.deferred (some [])) ∧ Below w.heap.size w W) := fun W hW => by
              obtain ⟨-, -, -, f4, -, f9⟩ := FA.out W (HFA.out W (HB2.out.trans (hW.mono HB2.out.size))).1
              exact ⟨(cell_of_row _ _ 0 _ 4 (0, 0) f4).trans rfl, frozen_of_row _ _ 0 _ 4 f4, hide ⟨f4, (hW.block _ (Array.getElem?_eq_some_iff.1 hK0).1).trans hK0, (hW.block _ hlsv).trans hK1, f9⟩⟩
            have b9 : Below wv1.heap.size wv1 (wv1.alloc (.cells #[.int .i64 2] 3)) := (Below.refl _ wv1).alloc (Nat.le_refl _) _
            have HFI := hide (And.intro hfin b9)
            have HLT := hide hlsv
            clear hit hI0 hi hj hK1 hK0 hlsv bA1 hfin b9
            go_wp2
            rw [rounds_succ]
            go_wp2_with (go_at_call 6; refine (k6 _).mono ?_; rintro e w9 ⟨rfl, bk⟩; obtain ⟨cr, fr, HE⟩ := HFI.out.1 w9 (HFI.out.2.trans (bk.mono HFI.out.2.size)); clear bk; dsimp only)
            obtain ⟨rr9, kk0, kk1, bw9⟩ := HE.out
            have hz := HSZ.out
            have hA0 := HSA0.out
            have hA1 := HSA1.out
            have hv := HV.out.2
            obtain ⟨s5, o5⟩ := set_one (i := 0) (.bool true) rr9
            have x1 := (o5.block _ (Array.getElem?_eq_some_iff.1 kk1).1 (by omega)).trans kk1
            have x0 := (o5.block _ (Array.getElem?_eq_some_iff.1 kk0).1 (by omega)).trans kk0
            have hcell : (w9.setCell ⟨Br, 0, none⟩ (.bool true)).cell? ⟨Br, 0, none⟩ = some (.bool true) := (cell_of_row _ _ 0 _ 4 (0, 0) s5).trans rfl
            have o1 := only_putObj (w9.setCell ⟨Br, 0, none⟩ (.bool true)) wA1.heap.size (.deferred none)
            have x0' := (o1.block wA0.heap.size (Array.getElem?_eq_some_iff.1 x0).1 (by omega)).trans x0
            have o2 := only_putObj ((w9.setCell ⟨Br, 0, none⟩ (.bool true)).putObj wA1.heap.size (.deferred none)) wA0.heap.size (.deferred none)
            have p5 := Below.only bw9 o5 bw9.size (fun j d => by omega)
            have p6 := Below.only p5 o1 p5.size (fun j d => by omega)
            have p7 := Below.only p6 o2 p6.size (fun j d => by omega)
            exact leave_mark (fn := Try.f4) x1 (leave_mark x0' (leave_cell Br (x := true) rfl rfl (o2.cell (o1.cell hcell (by simp only; omega)) (by simp only; omega)) ⟨rfl, p7⟩))
end Go.Proofs.Ytlhfkdgdbjinoaa
