/-
  tagset: a set tells just these elements (stands 23).
-/
import Derived.Test.YtkkpdgfllnbigaaGreatMg24
import Derived.Test.YtkkpdgfllnbigaaGreatMg23
namespace Go.Proofs.YtkkpdgfllnbigaaGreat.Tg
open Go.RowKit Go.Shelf
set_option linter.unusedSimpArgs false
set_option linter.unusedVariables false
attribute [local go_sem] Oper.semAt_some

theorem fn_nil68' (f : Fn) (x y : Array Value) (w : World) : (binOp .eql 68 (.func f x y) .nilFunc).run Tryz.prog w = .ok (.bool false) w := by kernel_rfl
theorem exec_nil68 {ev' : Operand → Value} {x : Tmp} {T : TypeId} {w : World} {f : Fn} {p q : Array Value} (hx : ev' (.tmp x) = .func f p q) (hy : ev' (.const .nilFunc) = .nilFunc) : (execOp ev' { dst := none, op := .binOp .eql 68 (.tmp x) (.const .nilFunc) 68, type := T, pos := "", after := #[], guard := none }).run Tryz.prog w = .ok (.value (.bool false)) w := by
  have h := fn_nil68' f p q
  unfold execOp
  simp only [hx, hy]
  go_simp
theorem leave_cell2 {fn : Func} {tmps : Array Value} {p : Tmp} (c : Nat) {x : Bool} {R : Ending → World → Prop} {W : World} (h : fn.results = #[.cell p 4]) (hp : tmps.getD p undef = .pointer (some ⟨c, 0, none⟩)) (hc : W.cell? ⟨c, 0, none⟩ = some (.bool x)) (hR : R (.returned (.bool x)) W) : LeavesInM Fence.wide 6 Tryz.prog fn tmps R [] .returning W := by
  refine leave_none (v := .bool x) ?_ hR
  have h2 : (loadVar 4 ⟨c, 0, none⟩).run Tryz.prog W = .ok (.bool x) W := by go_simp
  have hp' : tmps[p]?.getD undef = .pointer (some ⟨c, 0, none⟩) := by simpa using hp
  simp [results, h, hp', asAddr, Sem.run_bind, Result.andThen, h2]
/-- A range over such an iterator that may be left by a break: what stands between rounds is told from the range's own blocks on. -/
theorem range_irx {α : Type} {a : Act} {w : World} {Q : Exit → Act → World → Prop} {g : Operand} {ps : Array Tmp} {assign body : Code} (F : FuncId) (eg : Enters Tryz.prog F) (caps : Array Value) (xs : List α) (E : Nat → World → α → Array Value → Prop) (K : Nat → Prop)
    (hit : IterR F caps xs E K w) (hg : a.eval g = .func (.func F) #[] caps) (hps : ∀ B W x args, E B W x args → args.size = ps.size) (hK : ∀ j, K j → j < w.heap.size)
    (D : Nat → Prop) (hDK : ∀ j, D j → ¬ K j) (hDlt : ∀ j, D j → j < w.heap.size) (id : Nat) (hx : ∀ a W, Q .normal a W → Q (.exit id) a W)
    (I : Nat → World → Prop) (Ix J : World → Prop) (hI : ∀ k W W', I k W → Only (fun j => w.heap.size ≤ j) W W' → I k W') (hIx : ∀ W W', Ix W → Only (fun j => w.heap.size ≤ j) W W' → Ix W') (h0 : ∀ W, Below w.heap.size w W → I 0 W)
    (hJ : ∀ W, I xs.length W → J W) (hJx : ∀ W, Ix W → J W)
    (hround : ∀ B c x args W, w.heap.size + 2 ≤ B → xs[c]? = some x → E B W x args → I c W → B ≤ W.heap.size →
      assign.wpIn (Fence.wide.inRound (w.heap.size + 1)) 4 Tryz.prog (Exit.then (fun a1 W1 => Only (fun j => D j ∨ B ≤ j) W W1 ∧ ∀ W2, Only (fun j => j = w.heap.size + 1) W1 W2 → body.wpIn (Fence.wide.inRound (w.heap.size + 1)) 4 Tryz.prog (rpost (fun j => D j ∨ B ≤ j) I (fun cd W => cd = .exit id ∧ Ix W) W2 (c + 1)) a1 W2) (fun _ _ _ => False))
        { tmps := (ps.zip args).foldl (fun t (p, v) => t.setIfInBounds p v) a.tmps, defers := [] } W)
    (hdone : ∀ W, J W → w.heap.size < W.heap.size → W.heap[w.heap.size]? = some (.deferred (some [])) → Q .normal { a with defers := { target := .collected w.heap.size, args := #[] } :: a.defers } W) :
    (Code.rangeFunc g ps assign body).wp Tryz.prog Q a w :=
  range_ir (Q := Q) F eg caps xs E K hit hg hps hK D hDK hDlt (fun _ k W => I k W) (fun _ cd W => cd = .exit id ∧ Ix W)
    (fun B k W W' hB hi ho => hI k W W' hi (ho.mono (fun j _ e => by have e' : w.heap.size + 1 ≤ j ∧ j < B := e; show w.heap.size ≤ j; omega)))
    (fun B cd W W' hB hi ho => ⟨hi.1, hIx W W' hi.2 (ho.mono (fun j _ e => by have e' : w.heap.size + 1 ≤ j ∧ j < B := e; show w.heap.size ≤ j; omega))⟩)
    (fun B W hb _ => h0 W hb)
    (fun B c x args W hB hxs hE hi _ hsz => hround B c x args W hB hxs hE hi hsz)
    (fun B W _ hi hlt hk => hdone W (hJ W hi) hlt hk)
    (fun B cd W _ hi hlt hk => by rw [hi.1]; exact wp_exit (hx _ _ (hdone W (hJx W hi.2) hlt hk)))
/-- An operation of a plain region within a round that turns the world and answers nothing. -/
theorem skip_in {r n : Nat} {P : Program} {ops : Array Oper} {rest : List Oper} {o : Oper} {a : Act} {w w' : World} {Q : Exit → Act → World → Prop} {OP : Op} {T : TypeId} (hgd : o.guard = none) (hds : o.dst = none) (ho : o.op = OP) (ht : o.type = T) (hd : ∀ c, OP ≠ .defer c)
    (hy : (execOp a.eval { dst := none, op := OP, type := T, pos := "", after := #[], guard := none }).run P w = .ok .skip w') (h : wpListIn (Fence.wide.inRound r) n P ops Q rest a w') : wpListIn (Fence.wide.inRound r) n P ops Q (o :: rest) a w :=
  wpListIn_plain hgd fun K hK => by
    refine ⟨fun _ _ => trivial, ?_⟩
    rw [Oper.semAt_eq _ _ _ (by rw [ho]; exact hd), exec_same a.eval o ho ht, hy]
    refine hK _ _ ?_
    rw [hds]
    exact h
def z5 (w : World) (g o : Nat) : World := ((((w.setCell ⟨g, o, none⟩ (.int .i64 0)).setCell ⟨g, o + 1, none⟩ (.int .i64 0)).setCell ⟨g, o + 2, none⟩ (.string ⟨#[]⟩)).setCell ⟨g, o + 3, none⟩ (.int .i64 0)).setCell ⟨g, o + 4, none⟩ (.int .i64 0)
theorem z5_says {w : World} {g o : Nat} {cur : Array Value} (h : w.heap[g]? = some (.cells cur 43 (0, 0))) : Only (fun j => j = g) w (z5 w g o) ∧ ∃ cur', (z5 w g o).heap[g]? = some (.cells cur' 43 (0, 0)) ∧ cur'.size = cur.size := by
  obtain ⟨h1, o1⟩ := set_one (i := o) (.int .i64 0) h
  obtain ⟨h2, o2⟩ := set_one (i := o + 1) (.int .i64 0) h1
  obtain ⟨h3, o3⟩ := set_one (i := o + 2) (.string ⟨#[]⟩) h2
  obtain ⟨h4, o4⟩ := set_one (i := o + 3) (.int .i64 0) h3
  obtain ⟨h5, o5⟩ := set_one (i := o + 4) (.int .i64 0) h4
  exact ⟨(((o1.next o2).next o3).next o4).next o5, _, h5, by simp⟩
theorem exec_st43 {ev' : Operand → Value} {x y : Operand} {T : TypeId} {w : World} {g o : Nat} {cur : Array Value} (hx : ev' x = .pointer (some ⟨g, o, none⟩)) (hy : ev' y = zeroT) (h : w.heap[g]? = some (.cells cur 43 (0, 0))) (ho : o + 5 ≤ cur.size) :
    (execOp ev' { dst := none, op := .store 43 x y, type := T, pos := "", after := #[], guard := none }).run Tryz.prog w = .ok .skip (z5 w g o) := by
  obtain ⟨u0, c0⟩ : ∃ u, w.cell? ⟨g, o, none⟩ = some u := ⟨_, (cell_of_row _ _ o _ 43 (0, 0) h).trans (Array.getElem?_eq_getElem (show o < cur.size by omega))⟩
  obtain ⟨u1, c1⟩ : ∃ u, w.cell? ⟨g, o + 1, none⟩ = some u := ⟨_, (cell_of_row _ _ (o + 1) _ 43 (0, 0) h).trans (Array.getElem?_eq_getElem (show o + 1 < cur.size by omega))⟩
  obtain ⟨u2, c2⟩ : ∃ u, w.cell? ⟨g, o + 2, none⟩ = some u := ⟨_, (cell_of_row _ _ (o + 2) _ 43 (0, 0) h).trans (Array.getElem?_eq_getElem (show o + 2 < cur.size by omega))⟩
  obtain ⟨u3, c3⟩ : ∃ u, w.cell? ⟨g, o + 3, none⟩ = some u := ⟨_, (cell_of_row _ _ (o + 3) _ 43 (0, 0) h).trans (Array.getElem?_eq_getElem (show o + 3 < cur.size by omega))⟩
  obtain ⟨u4, c4⟩ : ∃ u, w.cell? ⟨g, o + 4, none⟩ = some u := ⟨_, (cell_of_row _ _ (o + 4) _ 43 (0, 0) h).trans (Array.getElem?_eq_getElem (show o + 4 < cur.size by omega))⟩
  have f0 := frozen_of_row w g o _ 43 h
  have f1 := frozen_of_row w g (o + 1) _ 43 h
  have f2 := frozen_of_row w g (o + 2) _ 43 h
  have f3 := frozen_of_row w g (o + 3) _ 43 h
  have f4 := frozen_of_row w g (o + 4) _ 43 h
  unfold execOp z5
  simp only [hx, hy]
  go_simp
/-- What stands between the rounds of a turn. -/
def GI (wA : World) (Nb k : Nat) (W : World) : Prop := Only (fun j => j = Nb ∨ wA.heap.size ≤ j) wA W ∧ W.heap[Nb]? = some (.cells #[.int .i64 (k : Nat)] 3 (0, 0))
theorem GI.other {wA W W' : World} {Nb k : Nat} (h : GI wA Nb k W) (hN : Nb < wA.heap.size) (ho : Only (fun j => wA.heap.size ≤ j) W W') : GI wA Nb k W' :=
  ⟨h.1.next (ho.mono (fun _ _ e => .inr e)), (ho.block _ (gI h.2).1 (fun e => by have e' : wA.heap.size ≤ Nb := e; omega)).trans h.2⟩
theorem G_at {TL : List ByteArray} {l : List El} {k : Nat} {X : ByteArray} {S : List St} (h : (TL.map fun X => (X, stL X l))[k]? = some (X, S)) : TL[k]? = some X ∧ stL X l = S ∧ k < TL.length := by
  rw [List.getElem?_map] at h
  rcases hq : TL[k]? with _ | Y
  · rw [hq] at h; cases h
  · rw [hq] at h
    simp only [Option.map_some, Option.some.injEq, Prod.mk.injEq] at h
    obtain ⟨rfl, h2⟩ := h
    exact ⟨rfl, h2, (List.getElem?_eq_some_iff.1 hq).1⟩
theorem shT_le (l : List El) : (shT l).length ≤ l.length := by have := shT_len l l.length (Nat.le_refl _); rwa [List.take_length] at this
set_option maxHeartbeats 16000000 in
set_option maxRecDepth 100000 in
theorem stands23 {w : World} {t : Pm.T} {pm : Option Addr} {ao : Option Addr} {c : Nat} {l : List El} (h : Mg w t) (hp : t.ptr = .pointer pm) (hm : mayT t.list = true) (hl : l = elsT t.list) (hre : Re w ao l) : Calls Tryz.prog 23 #[.agg #[.pointer pm], .slice ao l.length c] w fun e w' => e = .returned (.bool true) ∧ Below w.heap.size w w' := by
  have mixed : Tryz.prog.follows .mixedOrders = true := by kernel_rfl
  obtain ⟨N, hN⟩ : ∃ q, q = l.length := ⟨_, rfl⟩
  have hNt : N = t.n := by rw [hN, hl]; exact els_n h hm
  have hNb : N ≤ 400 := by rw [hNt]; exact h.few
  obtain ⟨TL, hTL⟩ : ∃ q, q = shT l := ⟨_, rfl⟩
  have hTx : txL t.list = TL := by rw [hTL, hl]; exact txL_els hm h.srt
  obtain ⟨MT, hMT⟩ : ∃ q, q = TL.length := ⟨_, rfl⟩
  have hMb : MT ≤ 400 := by have := shT_le l; rw [← hTL] at this; omega
  have hTl : (tagsL t.list).length = N := by rw [hN, hl]; exact (elsT_len _).symm
  have hG : gA [] (tagsL t.list) = TL.map fun X => (X, stL X l) := by rw [hTL, hl]; exact gA_els hm h.srt
  obtain ⟨w0, hw0⟩ : ∃ q, q = ((w.alloc (.cells #[.pointer pm] 27)).alloc (.cells #[.slice ao N c] 22)).alloc (.cells #[.bool false] 4) := ⟨_, rfl⟩
  obtain ⟨m0, m1, m2, b0⟩ := new4r w _ _ _ w0 hw0
  have s0 : w0.heap.size = w.heap.size + 3 := by rw [hw0]; simp
  obtain ⟨Mb, hMb'⟩ : ∃ q, q = w.heap.size := ⟨_, rfl⟩
  obtain ⟨Lq, hLq⟩ : ∃ q, q = w.heap.size + 1 := ⟨_, rfl⟩
  obtain ⟨Rb, hRb⟩ : ∃ q, q = w.heap.size + 1 + 1 := ⟨_, rfl⟩
  rw [← hMb'] at m0
  rw [← hLq] at m1
  rw [← hRb] at m2
  have HC : Hid (∀ W, Below w0.heap.size w0 W → W.cell? ⟨Mb, 0, none⟩ = some (.pointer pm) ∧ W.cell? ⟨Lq, 0, none⟩ = some (.slice ao N c) ∧ W.heap[Rb]? = some (.cells #[.bool false] 4 (0, 0)) ∧ Below w.heap.size w W) := hide (fun W hW => ⟨cell_stays ((cell_of_row _ _ 0 _ 27 (0, 0) m0).trans rfl) hW, cell_stays ((cell_of_row _ _ 0 _ 22 (0, 0) m1).trans rfl) hW, (hW.block _ (gI m2).1).trans m2, b0.trans (hW.mono b0.size)⟩)
  have HW0 := hide (And.intro hw0 (And.intro hRb (And.intro hLq (And.intro hMb' s0))))
  have kE : ∀ W, Below w0.heap.size w0 W → Calls Tryz.prog 29 #[.agg #[.pointer pm]] W fun e w' => ∃ a1 c1, e = .returned (.tuple #[.slice a1 N c1, .int .i64 0]) ∧ Re w' a1 l ∧ Below W.heap.size W w' := fun W hW => by
    have := elements29 (h.below (b0.trans (hW.mono b0.size))) hp
    rw [← hl, hm, if_pos rfl, ← hN] at this
    exact this.mono fun e w' ⟨x1, x2, h1, h2, h3⟩ => ⟨x1, x2, h1, h2.re, h3⟩
  have kT : ∀ W, Below w0.heap.size w0 W → Calls Tryz.prog 33 #[.agg #[.pointer pm]] W fun e w' => ∃ a1 c1, e = .returned (.tuple #[.slice a1 MT c1, .int .i64 0]) ∧ Rs w' a1 TL ∧ Below W.heap.size W w' := fun W hW => by
    have := texts33 (h.below (b0.trans (hW.mono b0.size))) hp
    unfold TextsE at this
    rw [hTx, hm, if_pos rfl, ← hMT] at this
    exact this.mono fun e w' ⟨x1, x2, h1, h2, h3⟩ => ⟨x1, x2, h1, h2.rs, h3⟩
  have kA : ∀ W, Below w0.heap.size w0 W → Calls Tryz.prog 35 #[.agg #[.pointer pm]] W fun e w' => ∃ Lb a1 c1, e = .returned (.func (.func 133) #[] #[.pointer (some ⟨Lb, 0, none⟩)]) ∧ (w'.heap[Lb]? = some (.cells #[.slice a1 N c1] 22 (0, 0)) ∧ Oe w' W.heap.size (.slice a1 N c1) (tagsL t.list)) ∧ Below W.heap.size W w' := fun W hW => by
    have := all35 (h.below (b0.trans (hW.mono b0.size))) hp
    unfold AllE at this
    rw [hTl] at this
    exact this.mono fun e w' ⟨x1, x2, x3, h1, h2, h3, h4, h5⟩ => ⟨x1, x2, x3, h1, ⟨h2, h3⟩, h5⟩
  have kX : ∀ W, Below w0.heap.size w0 W → Calls Tryz.prog 115 #[.slice ao N c] W fun e w' => ∃ a1 c1, e = .returned (.slice a1 MT c1) ∧ (Rs w' a1 TL ∧ ∀ a, a1 = some a → a.block < w'.heap.size) ∧ Below W.heap.size W w' := fun W hW => by
    have := texts115 (c := c) l (hre.below (b0.trans (hW.mono b0.size))) (by omega)
    rw [← hTL, ← hN] at this
    refine this.mono fun e w' hh => ?_
    obtain ⟨v, he, ho, hb⟩ := hh
    obtain ⟨a', c', hv⟩ := ot_form ho
    rw [← hMT] at hv
    subst hv
    exact ⟨a', c', he, ⟨ho.rs, fun a ha => (World.ownsRow.lt ho _ (by rw [ha]; rfl)).2⟩, hb⟩
  have kS : ∀ W a1 c1, Below w0.heap.size w0 W → Re W a1 l → Calls Tryz.prog 39 #[.slice a1 N c1, .slice ao N c] W fun e w' => e = .returned (.bool true) ∧ Below W.heap.size W w' := fun W a1 c1 hW hr => by
    have := sameEls_any (c := c1) (d := c) hr (hre.below (b0.trans (hW.mono b0.size))) (by omega) (by omega)
    rw [decide_eq_true rfl, ← hN] at this
    exact this.mono (fun e w' ⟨he, n, hn⟩ => ⟨he, by rw [hn]; exact below_drew _ _⟩)
  have kU : ∀ W a1 c1 a2 c2, Rs W a1 TL → Rs W a2 TL → Calls Tryz.prog 108 #[.slice a1 MT c1, .slice a2 MT c2] W fun e w' => e = .returned (.bool true) ∧ Below W.heap.size W w' := fun W a1 c1 a2 c2 h1 h2 => by
    have := sameTexts_any (c := c1) (d := c2) h1 h2 (by omega) (by omega)
    rw [decide_eq_true rfl, ← hMT] at this
    exact this.mono (fun e w' ⟨he, n, hn⟩ => ⟨he, by rw [hn]; exact below_drew _ _⟩)
  have kM : ∀ W, Below w0.heap.size w0 W → Calls Tryz.prog 28 #[.agg #[.pointer pm]] W fun e w' => e = .returned (.bool true) ∧ Below W.heap.size W w' := fun W hW => by
    have := may28 (h.below (b0.trans (hW.mono b0.size))) hp
    rw [hm] at this
    exact this
  have kL : ∀ W, Below w0.heap.size w0 W → Calls Tryz.prog 21 #[.agg #[.pointer pm]] W fun e w' => e = .returned (.int .i64 (N : Nat)) ∧ Below W.heap.size W w' := fun W hW => by
    have := Pm.mLen_any t W (h.below (b0.trans (hW.mono b0.size))).inn
    unfold Pm.mv at this
    rw [hp, ← hNt] at this
    exact this
  have tkN : ∀ W, Calls Tryz.prog 20 #[.int .i64 0] W fun e w' => e = .returned (.int .i64 0) ∧ w' = W := fun W => num20 0 W
  have kG : ∀ W X, Below w.heap.size w W → Calls Tryz.prog 117 #[.slice ao N c, .string X] W fun e w' => ∃ a1 c1, e = .returned (.slice a1 (stL X l).length c1) ∧ Rv w' a1 (stL X l) ∧ Below W.heap.size W w' := fun W X hW => by
    have := tags117 (c := c) l X (hre.below hW) (by omega)
    rw [← hN] at this
    refine this.mono fun e w' hh => ?_
    obtain ⟨v, he, ho, hb⟩ := hh
    obtain ⟨a', c', hv, hr, -⟩ := ho.form
    subst hv
    exact ⟨a', c', he, hr, hb⟩
  have HTT := hide (And.intro hN (And.intro hTL (And.intro hMT hG)))
  obtain ⟨LT, hLT⟩ : ∃ q, q = tagsL t.list := ⟨_, rfl⟩
  rw [← hLT] at HTT kA hTl
  have HLT := hide hTl
  rw [← hN]
  clear h hp hm hl hre hNt hTx hG m0 m1 m2 b0 hw0 hMb' hLq hRb s0 hN hTL hMT hLT hTl
  obtain ⟨c0, e0, -, -⟩ := HC.out w0 (Below.refl _ _)
  refine calls_marks Tryz.func23 rfl ?_
  simp only [Tryz.ntmps23, List.size_toArray, List.length_cons, List.length_nil, Nat.reduceAdd, Nat.reduceSub, Array.replicate_succ, Array.replicate_zero, List.push_toArray, List.append_toArray, List.nil_append, List.cons_append]
  go_upto_region 1 with fail
  rw [← HW0.out.1, ← HW0.out.2.1, ← HW0.out.2.2.1, ← HW0.out.2.2.2.1]
  go_upto_region 2 with (go_at_call 29; refine (kE _ (Below.refl _ _)).mono ?_; rintro e w1 ⟨a1, c1, rfl, r1, b1⟩; have H1 := hide (And.intro r1 b1); obtain ⟨c0, e0, -, -⟩ := HC.out w1 b1; clear r1 b1; dsimp only)
  go_upto_region 3 with (go_at_call 33; refine (kT _ H1.out.2).mono ?_; rintro e w2 ⟨a2, c2, rfl, r2, b2⟩; have H2 := hide (And.intro (H1.out.1.below b2) (And.intro r2 (H1.out.2.trans (b2.mono H1.out.2.size)))); obtain ⟨c0, e0, -, -⟩ := HC.out w2 H2.out.2.2; clear r2 b2; dsimp only)
  go_upto_region 4 with (go_at_call 35; refine (kA _ H2.out.2.2).mono ?_; rintro e w3 ⟨Lb, aL, cL, rfl, f3, b3⟩; have H3 := hide (And.intro (H2.out.1.below b3) (And.intro (H2.out.2.1.below b3) (And.intro f3 (H2.out.2.2.trans (b3.mono H2.out.2.2.size))))); obtain ⟨c0, e0, -, -⟩ := HC.out w3 H3.out.2.2.2; clear f3 b3; dsimp only)
  clear H1 H2
  go_upto_region 5 with (go_at_call 115; refine (kX _ H3.out.2.2.2).mono ?_; rintro e w4 ⟨aW, cW, rfl, f4, b4⟩; have H4 := hide (And.intro f4 b4); clear f4 b4; dsimp only)
  obtain ⟨W4, hW4⟩ : ∃ q, q = w4.alloc (.cells #[.slice aW MT cW] 63) := ⟨_, rfl⟩
  have m4 := heap_alloc_new w4 (.cells #[.slice aW MT cW] 63)
  have d4 : Below w4.heap.size w4 W4 := by rw [hW4]; exact (Below.refl _ w4).alloc (Nat.le_refl _) _
  have s4 : W4.heap.size = w4.heap.size + 1 := by rw [hW4]; simp
  obtain ⟨Wb, hWb⟩ : ∃ q, q = w4.heap.size := ⟨_, rfl⟩
  rw [← hW4, ← hWb] at m4
  rw [← hW4, ← hWb]
  have b34 : Below w3.heap.size w3 W4 := H4.out.2.trans (d4.mono H4.out.2.size)
  have g4 : W4.cell? ⟨Wb, 0, none⟩ = some (.slice aW MT cW) := (cell_of_row _ _ 0 _ 63 (0, 0) m4).trans rfl
  have b04 := H3.out.2.2.2.trans (b34.mono H3.out.2.2.2.size)
  obtain ⟨c0, e0, -, -⟩ := HC.out W4 b04
  have H5 : Hid (Re W4 a1 l ∧ Rs W4 a2 TL ∧ Rs W4 aW TL ∧ Below w0.heap.size w0 W4 ∧ (W4.heap[Lb]? = some (.cells #[.slice aL N cL] 22 (0, 0)) ∧ Re W4 aL LT ∧ (∀ a, aL = some a → a.block < W4.heap.size)) ∧ (∀ a, aW = some a → a.block < W4.heap.size)) := hide ⟨H3.out.1.below b34, H3.out.2.1.below b34, H4.out.1.1.below d4, b04, ⟨(b34.block _ (gI H3.out.2.2.1.1).1).trans H3.out.2.2.1.1, H3.out.2.2.1.2.re.below b34, fun a ha => Nat.lt_of_lt_of_le (World.ownsRow.lt H3.out.2.2.1.2 _ (by rw [ha]; rfl)).2 b34.size⟩, fun a ha => Nat.lt_of_lt_of_le (H4.out.1.2 a ha) d4.size⟩
  clear m4 d4 s4 hWb hW4 b34 b04 H3 H4 kE kT kA kX
  refine wp_region_held_drew (S := fun w' => w'.cell? ⟨Mb, 0, none⟩ = some (.pointer pm) ∧ w'.cell? ⟨Lq, 0, none⟩ = some (.slice ao N c) ∧ w'.cell? ⟨Wb, 0, none⟩ = some (.slice aW MT cW) ∧ Below W4.heap.size W4 w') (by kernel_rfl) (by exact ⟨c0, e0, g4, drew_below W4⟩) (fun hHeld => ?_)
  try dsimp only at hHeld
  refine take_op (i := 0) (d := 30) (OP := Op.move (Operand.tmp 5)) (T := 22) (v := ?v1) rfl rfl rfl rfl (by kernel_rfl) (by kernel_rfl) (by kernel_rfl) (fun _ _ _ h => h) (by rfl) ?h1 hHeld ?r1
  case h1 => (intro w' hSw; (try dsimp only at hSw); go_simp <;> with_reducible rfl)
  try simp only [Act.put, sI, sZ, sS]
  refine take_op (i := 1) (d := 31) (OP := Op.load 22 (Operand.tmp 3)) (T := 22) (v := ?v2) rfl rfl rfl rfl (by kernel_rfl) (by kernel_rfl) (by kernel_rfl) (fun _ _ _ h => h) (by rfl) ?h2 hHeld ?r2
  case h2 => (intro w' hSw; (try dsimp only at hSw); go_simp <;> with_reducible rfl)
  try simp only [Act.put, sI, sZ, sS]
  refine call_op (i := 2) (d := 32) (OP := Op.call { callee := Callee.value (Operand.func 39), args := #[Operand.tmp 30, Operand.tmp 31], argTypes := #[22, 22] }) (T := 4) (f := 39) (args := #[.slice a1 N c1, .slice ao N c]) rfl rfl rfl rfl (by kernel_rfl) (by rfl) (by go_simp) ?_
  refine (kS _ _ _ (H5.out.2.2.2.1.trans (hHeld.2.2.2.mono H5.out.2.2.2.1.size)) (H5.out.1.below hHeld.2.2.2)).mono ?_
  rintro e z1 ⟨rfl, bz⟩
  have qz : z1.cell? ⟨Mb, 0, none⟩ = some (.pointer pm) ∧ z1.cell? ⟨Lq, 0, none⟩ = some (.slice ao N c) ∧ z1.cell? ⟨Wb, 0, none⟩ = some (.slice aW MT cW) ∧ Below W4.heap.size W4 z1 := ⟨cell_stays hHeld.1 bz, cell_stays hHeld.2.1 bz, cell_stays hHeld.2.2.1 bz, hHeld.2.2.2.trans (bz.mono hHeld.2.2.2.size)⟩
  refine ⟨_, rfl, qz, ?_⟩
  replace hHeld := qz
  clear qz bz
  try simp only [Act.put, sI, sZ, sS]
  refine take_op (i := 3) (d := 33) (OP := Op.unOp UnOp.not 4 (Operand.tmp 32)) (T := 4) (v := ?v3) rfl rfl rfl rfl (by kernel_rfl) (by kernel_rfl) (by kernel_rfl) (fun _ _ _ h => h) (by rfl) ?h3 hHeld ?r3
  case h3 => (intro w' hSw; (try dsimp only at hSw); go_simp <;> with_reducible rfl)
  try simp only [Act.put, sI, sZ, sS]
  refine take_op (i := 4) (d := 34) (OP := Op.move (Operand.tmp 33)) (T := 4) (v := ?v4) rfl rfl rfl rfl (by kernel_rfl) (by kernel_rfl) (by kernel_rfl) (fun _ _ _ h => h) (by rfl) ?h4 hHeld ?r4
  case h4 => (intro w' hSw; (try dsimp only at hSw); go_simp <;> with_reducible rfl)
  try simp only [Act.put, sI, sZ, sS]
  refine take_op (i := 5) (d := 35) (OP := Op.move (Operand.tmp 6)) (T := 28) (v := ?v5) rfl rfl rfl rfl (by kernel_rfl) (by kernel_rfl) (by kernel_rfl) (fun _ _ _ h => h) (by rfl) ?h5 hHeld ?r5
  case h5 => (intro w' hSw; (try dsimp only at hSw); go_simp <;> with_reducible rfl)
  try simp only [Act.put, sI, sZ, sS]
  refine take_op (i := 7) (d := 37) (OP := Op.move (Operand.tmp 8)) (T := 28) (v := ?v6) rfl rfl rfl rfl (by kernel_rfl) (by kernel_rfl) (by kernel_rfl) (fun _ _ _ h => h) (by rfl) ?h6 hHeld ?r6
  case h6 => (intro w' hSw; (try dsimp only at hSw); go_simp <;> with_reducible rfl)
  try simp only [Act.put, sI, sZ, sS]
  refine call_op (i := 6) (d := 36) (OP := Op.call { callee := Callee.value (Operand.func 20), args := #[Operand.tmp 35], argTypes := #[28] }) (T := 3) (f := 20) (args := #[.int .i64 0]) rfl rfl rfl rfl (by kernel_rfl) (by rfl) (by go_simp) ?_
  refine (tkN _).mono ?_
  rintro e zx2 ⟨rfl, rfl⟩
  refine ⟨_, rfl, hHeld, ?_⟩
  try simp only [Act.put, sI, sZ, sS]
  refine call_op (i := 8) (d := 38) (OP := Op.call { callee := Callee.value (Operand.func 20), args := #[Operand.tmp 37], argTypes := #[28] }) (T := 3) (f := 20) (args := #[.int .i64 0]) rfl rfl rfl rfl (by kernel_rfl) (by rfl) (by go_simp) ?_
  refine (tkN _).mono ?_
  rintro e zx3 ⟨rfl, rfl⟩
  refine ⟨_, rfl, hHeld, ?_⟩
  try simp only [Act.put, sI, sZ, sS]
  refine take_op (i := 9) (d := 39) (OP := Op.binOp BinOp.add 3 (Operand.tmp 36) (Operand.tmp 38) 3) (T := 3) (v := ?v7) rfl rfl rfl rfl (by kernel_rfl) (by kernel_rfl) (by kernel_rfl) (fun _ _ _ h => h) (by rfl) ?h7 hHeld ?r7
  case h7 => (intro w' hSw; (try dsimp only at hSw); go_simp <;> with_reducible rfl)
  try simp only [Act.put, sI, sZ, sS]
  refine take_op (i := 10) (d := 40) (OP := Op.binOp BinOp.neq 3 (Operand.tmp 39) (Operand.const (Value.int IntKind.i64 0)) 3) (T := 4) (v := ?v8) rfl rfl rfl rfl (by kernel_rfl) (by kernel_rfl) (by kernel_rfl) (fun _ _ _ h => h) (by rfl) ?h8 hHeld ?r8
  case h8 => (intro w' hSw; (try dsimp only at hSw); go_simp <;> with_reducible rfl)
  try simp only [Act.put, sI, sZ, sS]
  refine take_op (i := 11) (d := 41) (OP := Op.pick (Operand.tmp 34) (Operand.const (Value.bool true)) (Operand.tmp 40)) (T := 4) (v := ?v9) rfl rfl rfl rfl (by kernel_rfl) (by kernel_rfl) (by kernel_rfl) (fun _ _ _ h => h) (by rfl) ?h9 hHeld ?r9
  case h9 => (intro w' hSw; (try dsimp only at hSw); go_simp <;> with_reducible rfl)
  try simp only [Act.put, sI, sZ, sS]
  refine take_op (i := 12) (d := 42) (OP := Op.move (Operand.tmp 41)) (T := 4) (v := ?v10) rfl rfl rfl rfl (by kernel_rfl) (by kernel_rfl) (by kernel_rfl) (fun _ _ _ h => h) (by rfl) ?h10 hHeld ?r10
  case h10 => (intro w' hSw; (try dsimp only at hSw); go_simp <;> with_reducible rfl)
  try simp only [Act.put, sI, sZ, sS]
  refine take_op (i := 13) (d := 43) (OP := Op.move (Operand.tmp 7)) (T := 63) (v := ?v11) rfl rfl rfl rfl (by kernel_rfl) (by kernel_rfl) (by kernel_rfl) (fun _ _ _ h => h) (by rfl) ?h11 hHeld ?r11
  case h11 => (intro w' hSw; (try dsimp only at hSw); go_simp <;> with_reducible rfl)
  try simp only [Act.put, sI, sZ, sS]
  refine take_op (i := 14) (d := 44) (OP := Op.load 63 (Operand.tmp 10)) (T := 63) (v := ?v12) rfl rfl rfl rfl (by kernel_rfl) (by kernel_rfl) (by kernel_rfl) (fun _ _ _ h => h) (by rfl) ?h12 hHeld ?r12
  case h12 => (intro w' hSw; (try dsimp only at hSw); go_simp <;> with_reducible rfl)
  try simp only [Act.put, sI, sZ, sS]
  refine call_op (i := 15) (d := 45) (OP := Op.call { callee := Callee.value (Operand.func 108), args := #[Operand.tmp 43, Operand.tmp 44], argTypes := #[63, 63] }) (T := 4) (f := 108) (args := #[.slice a2 MT c2, .slice aW MT cW]) rfl rfl rfl rfl (by kernel_rfl) (by rfl) (by go_simp) ?_
  refine (kU _ _ _ _ _ (H5.out.2.1.below hHeld.2.2.2) (H5.out.2.2.1.below hHeld.2.2.2)).mono ?_
  rintro e z4 ⟨rfl, bz⟩
  have qz : z4.cell? ⟨Mb, 0, none⟩ = some (.pointer pm) ∧ z4.cell? ⟨Lq, 0, none⟩ = some (.slice ao N c) ∧ z4.cell? ⟨Wb, 0, none⟩ = some (.slice aW MT cW) ∧ Below W4.heap.size W4 z4 := ⟨cell_stays hHeld.1 bz, cell_stays hHeld.2.1 bz, cell_stays hHeld.2.2.1 bz, hHeld.2.2.2.trans (bz.mono hHeld.2.2.2.size)⟩
  refine ⟨_, rfl, qz, ?_⟩
  replace hHeld := qz
  clear qz bz
  try simp only [Act.put, sI, sZ, sS]
  refine take_op (i := 16) (d := 46) (OP := Op.unOp UnOp.not 4 (Operand.tmp 45)) (T := 4) (v := ?v13) rfl rfl rfl rfl (by kernel_rfl) (by kernel_rfl) (by kernel_rfl) (fun _ _ _ h => h) (by rfl) ?h13 hHeld ?r13
  case h13 => (intro w' hSw; (try dsimp only at hSw); go_simp <;> with_reducible rfl)
  try simp only [Act.put, sI, sZ, sS]
  refine take_op (i := 17) (d := 47) (OP := Op.pick (Operand.tmp 42) (Operand.const (Value.bool true)) (Operand.tmp 46)) (T := 4) (v := ?v14) rfl rfl rfl rfl (by kernel_rfl) (by kernel_rfl) (by kernel_rfl) (fun _ _ _ h => h) (by rfl) ?h14 hHeld ?r14
  case h14 => (intro w' hSw; (try dsimp only at hSw); go_simp <;> with_reducible rfl)
  try simp only [Act.put, sI, sZ, sS]
  refine take_op (i := 18) (d := 48) (OP := Op.move (Operand.tmp 47)) (T := 4) (v := ?v15) rfl rfl rfl rfl (by kernel_rfl) (by kernel_rfl) (by kernel_rfl) (fun _ _ _ h => h) (by rfl) ?h15 hHeld ?r15
  case h15 => (intro w' hSw; (try dsimp only at hSw); go_simp <;> with_reducible rfl)
  try simp only [Act.put, sI, sZ, sS]
  refine take_op (i := 19) (d := 49) (OP := Op.move (Operand.tmp 9)) (T := 68) (v := ?v16) rfl rfl rfl rfl (by kernel_rfl) (by kernel_rfl) (by kernel_rfl) (fun _ _ _ h => h) (by rfl) ?h16 hHeld ?r16
  case h16 => (intro w' hSw; (try dsimp only at hSw); go_simp <;> with_reducible rfl)
  try simp only [Act.put, sI, sZ, sS]
  refine take_op (i := 20) (d := 50) (OP := Op.binOp BinOp.eql 68 (Operand.tmp 49) (Operand.const Value.nilFunc) 68) (T := 4) (v := .bool false) rfl rfl rfl rfl (by kernel_rfl) (by kernel_rfl) (by kernel_rfl) (fun _ _ _ h => h) (by rfl) ?h17 hHeld ?r17
  case h17 => (intro w' hSw; exact exec_nil68 rfl rfl)
  try simp only [Act.put, sI, sZ, sS]
  refine take_op (i := 21) (d := 51) (OP := Op.pick (Operand.tmp 48) (Operand.const (Value.bool true)) (Operand.tmp 50)) (T := 4) (v := ?v18) rfl rfl rfl rfl (by kernel_rfl) (by kernel_rfl) (by kernel_rfl) (fun _ _ _ h => h) (by rfl) ?h18 hHeld ?r18
  case h18 => (intro w' hSw; (try dsimp only at hSw); go_simp <;> with_reducible rfl)
  try simp only [Act.put, sI, sZ, sS]
  refine take_op (i := 22) (d := 52) (OP := Op.move (Operand.tmp 51)) (T := 4) (v := ?v19) rfl rfl rfl rfl (by kernel_rfl) (by kernel_rfl) (by kernel_rfl) (fun _ _ _ h => h) (by rfl) ?h19 hHeld ?r19
  case h19 => (intro w' hSw; (try dsimp only at hSw); go_simp <;> with_reducible rfl)
  try simp only [Act.put, sI, sZ, sS]
  refine take_op (i := 23) (d := 53) (OP := Op.load 27 (Operand.tmp 2)) (T := 27) (v := ?v20) rfl rfl rfl rfl (by kernel_rfl) (by kernel_rfl) (by kernel_rfl) (fun _ _ _ h => h) (by rfl) ?h20 hHeld ?r20
  case h20 => (intro w' hSw; (try dsimp only at hSw); go_simp <;> with_reducible rfl)
  try simp only [Act.put, sI, sZ, sS]
  refine call_op (i := 24) (d := 54) (OP := Op.call { callee := Callee.value (Operand.func 28), args := #[Operand.tmp 53], argTypes := #[27] }) (T := 4) (f := 28) (args := #[.agg #[.pointer pm]]) rfl rfl rfl rfl (by kernel_rfl) (by rfl) (by go_simp) ?_
  refine (kM _ (H5.out.2.2.2.1.trans (hHeld.2.2.2.mono H5.out.2.2.2.1.size))).mono ?_
  rintro e z5 ⟨rfl, bz⟩
  have qz : z5.cell? ⟨Mb, 0, none⟩ = some (.pointer pm) ∧ z5.cell? ⟨Lq, 0, none⟩ = some (.slice ao N c) ∧ z5.cell? ⟨Wb, 0, none⟩ = some (.slice aW MT cW) ∧ Below W4.heap.size W4 z5 := ⟨cell_stays hHeld.1 bz, cell_stays hHeld.2.1 bz, cell_stays hHeld.2.2.1 bz, hHeld.2.2.2.trans (bz.mono hHeld.2.2.2.size)⟩
  refine ⟨_, rfl, qz, ?_⟩
  replace hHeld := qz
  clear qz bz
  try simp only [Act.put, sI, sZ, sS]
  refine take_op (i := 25) (d := 55) (OP := Op.unOp UnOp.not 4 (Operand.tmp 54)) (T := 4) (v := ?v21) rfl rfl rfl rfl (by kernel_rfl) (by kernel_rfl) (by kernel_rfl) (fun _ _ _ h => h) (by rfl) ?h21 hHeld ?r21
  case h21 => (intro w' hSw; (try dsimp only at hSw); go_simp <;> with_reducible rfl)
  try simp only [Act.put, sI, sZ, sS]
  refine take_op (i := 26) (d := 56) (OP := Op.pick (Operand.tmp 52) (Operand.const (Value.bool true)) (Operand.tmp 55)) (T := 4) (v := ?v22) rfl rfl rfl rfl (by kernel_rfl) (by kernel_rfl) (by kernel_rfl) (fun _ _ _ h => h) (by rfl) ?h22 hHeld ?r22
  case h22 => (intro w' hSw; (try dsimp only at hSw); go_simp <;> with_reducible rfl)
  try simp only [Act.put, sI, sZ, sS]
  refine take_op (i := 27) (d := 57) (OP := Op.move (Operand.tmp 56)) (T := 4) (v := ?v23) rfl rfl rfl rfl (by kernel_rfl) (by kernel_rfl) (by kernel_rfl) (fun _ _ _ h => h) (by rfl) ?h23 hHeld ?r23
  case h23 => (intro w' hSw; (try dsimp only at hSw); go_simp <;> with_reducible rfl)
  try simp only [Act.put, sI, sZ, sS]
  refine take_op (i := 28) (d := 58) (OP := Op.load 27 (Operand.tmp 2)) (T := 27) (v := ?v24) rfl rfl rfl rfl (by kernel_rfl) (by kernel_rfl) (by kernel_rfl) (fun _ _ _ h => h) (by rfl) ?h24 hHeld ?r24
  case h24 => (intro w' hSw; (try dsimp only at hSw); go_simp <;> with_reducible rfl)
  try simp only [Act.put, sI, sZ, sS]
  refine take_op (i := 30) (d := 60) (OP := Op.load 22 (Operand.tmp 3)) (T := 22) (v := ?v25) rfl rfl rfl rfl (by kernel_rfl) (by kernel_rfl) (by kernel_rfl) (fun _ _ _ h => h) (by rfl) ?h25 hHeld ?r25
  case h25 => (intro w' hSw; (try dsimp only at hSw); go_simp <;> with_reducible rfl)
  try simp only [Act.put, sI, sZ, sS]
  refine take_op (i := 31) (d := 61) (OP := Op.call { callee := Callee.builtin Builtin.len, args := #[Operand.tmp 60], argTypes := #[22] }) (T := 3) (v := ?v26) rfl rfl rfl rfl (by kernel_rfl) (by kernel_rfl) (by kernel_rfl) (fun _ _ _ h => h) (by rfl) ?h26 hHeld ?r26
  case h26 => (intro w' hSw; (try dsimp only at hSw); go_simp <;> with_reducible rfl)
  try simp only [Act.put, sI, sZ, sS]
  refine call_op (i := 29) (d := 59) (OP := Op.call { callee := Callee.value (Operand.func 21), args := #[Operand.tmp 58], argTypes := #[27] }) (T := 3) (f := 21) (args := #[.agg #[.pointer pm]]) rfl rfl rfl rfl (by kernel_rfl) (by rfl) (by go_simp) ?_
  refine (kL _ (H5.out.2.2.2.1.trans (hHeld.2.2.2.mono H5.out.2.2.2.1.size))).mono ?_
  rintro e z6 ⟨rfl, bz⟩
  have qz : z6.cell? ⟨Mb, 0, none⟩ = some (.pointer pm) ∧ z6.cell? ⟨Lq, 0, none⟩ = some (.slice ao N c) ∧ z6.cell? ⟨Wb, 0, none⟩ = some (.slice aW MT cW) ∧ Below W4.heap.size W4 z6 := ⟨cell_stays hHeld.1 bz, cell_stays hHeld.2.1 bz, cell_stays hHeld.2.2.1 bz, hHeld.2.2.2.trans (bz.mono hHeld.2.2.2.size)⟩
  refine ⟨_, rfl, qz, ?_⟩
  replace hHeld := qz
  clear qz bz
  try simp only [Act.put, sI, sZ, sS]
  refine take_op (i := 32) (d := 62) (OP := Op.binOp BinOp.neq 3 (Operand.tmp 59) (Operand.tmp 61) 3) (T := 4) (v := ?v27) rfl rfl rfl rfl (by kernel_rfl) (by kernel_rfl) (by kernel_rfl) (fun _ _ _ h => h) (by rfl) ?h27 hHeld ?r27
  case h27 => (intro w' hSw; (try dsimp only at hSw); go_simp <;> with_reducible rfl)
  try simp only [Act.put, sI, sZ, sS]
  refine take_op (i := 33) (d := 63) (OP := Op.pick (Operand.tmp 57) (Operand.const (Value.bool true)) (Operand.tmp 62)) (T := 4) (v := ?v28) rfl rfl rfl rfl (by kernel_rfl) (by kernel_rfl) (by kernel_rfl) (fun _ _ _ h => h) (by rfl) ?h28 hHeld ?r28
  case h28 => (intro w' hSw; (try dsimp only at hSw); go_simp <;> with_reducible rfl)
  try simp only [Act.put, sI, sZ, sS]
  refine wpAnyH_done (by kernel_rfl) ?_ _
  have b45 := hHeld.2.2.2
  have g5 := hHeld.2.2.1
  clear hHeld
  obtain ⟨W5, rfl⟩ : ∃ q, q = z6 := ⟨_, rfl⟩
  have HFA : Hid (∀ W, Below W5.heap.size W5 W → W.cell? ⟨Wb, 0, none⟩ = some (.slice aW MT cW) ∧ W.cell? ⟨Lq, 0, none⟩ = some (.slice ao N c) ∧ W.cell? ⟨Lb, 0, none⟩ = some (.slice aL N cL) ∧ Re W aL LT ∧ Rs W aW TL ∧ W.heap[Rb]? = some (.cells #[.bool false] 4 (0, 0)) ∧ Below w.heap.size w W) := hide (fun W hW => by
    have b4W := b45.trans (hW.mono b45.size)
    have b0W := H5.out.2.2.2.1.trans (b4W.mono H5.out.2.2.2.1.size)
    obtain ⟨-, x2, x3, x4⟩ := HC.out W b0W
    exact ⟨cell_stays g5 hW, x2, cell_stays ((cell_of_row _ _ 0 _ 22 (0, 0) H5.out.2.2.2.2.1.1).trans rfl) b4W, H5.out.2.2.2.2.1.2.1.below b4W, H5.out.2.2.1.below b4W, x3, x4⟩)
  have hWlt := World.block_lt_of_cell? _ _ g5
  have HKL : Hid ((∀ j, KG Lb aL j → j < W5.heap.size) ∧ (∀ a, aW = some a → a.block < W5.heap.size)) := hide ⟨fun j hj => by
    rcases hj with rfl | ⟨a, ha, rfl⟩
    · exact Nat.lt_of_lt_of_le (gI H5.out.2.2.2.2.1.1).1 b45.size
    · exact Nat.lt_of_lt_of_le (H5.out.2.2.2.2.1.2.2 a ha) b45.size, fun a ha => Nat.lt_of_lt_of_le (H5.out.2.2.2.2.2 a ha) b45.size⟩
  have HSZ : Hid (Wb < W5.heap.size ∧ Lq < W5.heap.size ∧ Rb < W5.heap.size ∧ w.heap.size ≤ Rb ∧ w.heap.size < Lq ∧ w.heap.size ≤ W5.heap.size) := hide (by
    obtain ⟨-, q1, q2, q3, q4⟩ := HW0.out
    have q5 := H5.out.2.2.2.1.size
    have q6 := b45.size
    simp only at hWlt
    omega)
  have HB0 : Hid (Below W5.heap.size W5 W5) := hide (Below.refl _ _)
  clear b45 g5 hWlt g4 c0 e0 H5 kS kU kM kL tkN
  go_wp2
  refine wp_loop_rounds 3 ?_
  rw [rounds_succ]
  go_wp2
  obtain ⟨wA0, hwA⟩ : ∃ q, q = (W5.alloc (.cells #[.int .i64 0] 3)).alloc (.cells #[.int .i64 0] 3) := ⟨_, rfl⟩
  obtain ⟨g0, g1⟩ := new2 W5 (.cells #[.int .i64 0] 3) (.cells #[.int .i64 0] 3)
  have bA : Below W5.heap.size W5 wA0 := by rw [hwA]; exact ((Below.refl _ W5).alloc (Nat.le_refl _) _).alloc (by simp) _
  rw [← hwA] at g0 g1 ⊢
  have hsA : wA0.heap.size = W5.heap.size + 2 := by rw [hwA]; simp
  obtain ⟨Tb0, hTb⟩ : ∃ q, q = W5.heap.size := ⟨_, rfl⟩
  obtain ⟨Nb0, hNb'⟩ : ∃ q, q = W5.heap.size + 1 := ⟨_, rfl⟩
  rw [← hNb'] at g1 ⊢
  rw [← hTb] at g0 ⊢
  have b5A : Below W5.heap.size W5 wA0 := HB0.out.trans (bA.mono HB0.out.size)
  have hBC : W5.heap.size ≤ W5.heap.size := HB0.out.size
  have f3 := (HFA.out wA0 b5A).2.2.1
  have f4 := (HFA.out wA0 b5A).2.2.2.1
  have hit := iterG LT Lb aL cL wA0 (by rw [HLT.out]; omega) (by rw [HLT.out]; exact f3) f4 (fun a ha => Nat.lt_of_lt_of_le (HKL.out.1 _ (.inr ⟨a, ha, rfl⟩)) b5A.size)
  rw [HTT.out.2.2.2] at hit
  have g0c : wA0.cell? ⟨Tb0, 0, none⟩ = some (.int .i64 0) := (cell_of_row _ _ 0 _ 3 (0, 0) g0).trans rfl
  have HSA0 : Hid (Tb0 < wA0.heap.size ∧ Nb0 < wA0.heap.size ∧ Tb0 ≠ Nb0 ∧ W5.heap.size ≤ Tb0 ∧ W5.heap.size ≤ Nb0 ∧ W5.heap.size ≤ Nb0 ∧ W5.heap.size ≤ wA0.heap.size ∧ W5.heap.size ≤ wA0.heap.size) := hide (by omega)
  have HG0 := hide (And.intro g0c (And.intro g1 (And.intro b5A bA)))
  clear g0 g1 bA hsA hTb hNb' b5A hBC f3 f4 g0c hwA
  refine range_irx (Q := _) 133 enters133 _ (TL.map fun X => (X, stL X l)) EG _ hit rfl (fun B W x args ⟨a, c, e, _⟩ => by rw [e]; rfl) (fun j hj => by have := HKL.out.1 j hj; have := HSA0.out; omega) (fun j => j = Nb0) (fun j e hj => by have := HKL.out.1 j hj; have := HSA0.out; have e' : j = Nb0 := e; omega) (fun j e => by have := HSA0.out; have e' : j = Nb0 := e; omega) 2 (fun _ _ h => h)
    (GI wA0 Nb0) (fun W => ((0 : Nat) = 0) ∧ GI wA0 Nb0 1 W) (fun W => ∃ k : Nat, (k = MT ∨ ((0 : Nat) = 0)) ∧ GI wA0 Nb0 k W)
    (fun k W W' hi ho => hi.other HSA0.out.2.1 ho) (fun W W' hi ho => ⟨hi.1, hi.2.other HSA0.out.2.1 ho⟩) (fun W hb => ⟨below_only hb, (hb.block _ HSA0.out.2.1).trans HG0.out.2.1⟩) (fun W hi => ⟨_, .inl (by rw [List.length_map]; exact HTT.out.2.2.1.symm), hi⟩) (fun W hi => ⟨1, .inr hi.1, hi.2⟩) ?hround0 ?hdone0
  case hround0 =>
    as_aux_lemma =>
      rintro B k ⟨X, S⟩ args W hB hx ⟨a, cS, rfl, hO⟩ hi hsz
      obtain ⟨hk, hS, hkl⟩ := G_at hx
      rw [← HTT.out.2.2.1] at hkl
      clear hit hx
      dsimp only
      gi_wp2
      refine ⟨Only.refl _ _, fun W2 ho2 => ?_⟩
      have hi2 := hi.other HSA0.out.2.1 (ho2.mono (fun j _ e => by have e' : j = wA0.heap.size + 1 := e; show wA0.heap.size ≤ j; omega))
      have hO2 : Ov W2 B (.slice a S.length cS) S := hO.only ho2 (fun j hj e => by have e' : j = wA0.heap.size + 1 := e; have := World.ownsRow.lt hO j hj; omega)
      have hB2 : B ≤ W2.heap.size := by have := ho2.size; omega
      obtain ⟨f1, f2, -, -, f5, -, f7⟩ := HFA.out wA0 HG0.out.2.2.1
      have t1 := hi2.1.cell f1 (fun e => by have e' : Wb = Nb0 ∨ wA0.heap.size ≤ Wb := e; have := HSA0.out; have := HSZ.out; omega)
      have t2 := hi2.1.cell f2 (fun e => by have e' : Lq = Nb0 ∨ wA0.heap.size ≤ Lq := e; have := HSA0.out; have := HSZ.out; omega)
      have tt := hi2.1.cell HG0.out.1 (fun e => by have e' : Tb0 = Nb0 ∨ wA0.heap.size ≤ Tb0 := e; have := HSA0.out; omega)
      have rw2 : Rs W2 aW TL := f5.only hi2.1 (fun x hx e => by have e' : x.block = Nb0 ∨ wA0.heap.size ≤ x.block := e; have := HKL.out.2 x hx; have := HSA0.out; omega)
      have bw2 : Below w.heap.size w W2 := Below.only f7 hi2.1 f7.size (fun j e => by have e' : j = Nb0 ∨ wA0.heap.size ≤ j := e; have := HSA0.out; have := HSZ.out; omega)
      have nc : W2.cell? ⟨Nb0, 0, none⟩ = some (.int .i64 (k : Nat)) := (cell_of_row _ _ 0 _ 3 (0, 0) hi2.2).trans rfl
      obtain ⟨ab, off, haW, ct⟩ := rw2.at hk
      have HAW := hide haW
      subst haW
      have kG2 := kG W2 X bw2
      rw [hS] at kG2
      obtain ⟨M, hM⟩ : ∃ q, q = S.length := ⟨_, rfl⟩
      have hM4 : M ≤ 400 := by have := stL_len X l; rw [hS] at this; have := HTT.out.1; omega
      have kS2 := fun (W' : World) (a7 : Option Addr) (c7 : Nat) (h1 : Rv W' a S) (h2 : Rv W' a7 S) => same116 (c := cS) (d := c7) h1 h2 (by omega)
      rw [← hM] at kG2 hO2
      simp only [← hM] at kS2
      rw [← hM]
      have bq : (X.toList == X.toList) = true := by simp
      have d1 : decide (MT ≤ k) = false := by simp; omega
      have d2 : ¬ (MT : Int) ≤ (k : Int) := by omega
      have d3 : (k : Int) < (MT : Int) := by omega
      have d4 : decide (k < MT) = true := by simpa using hkl
      have HI2 := hide hi2
      have HO2 := hide hO2
      have HTC := hide (And.intro tt (And.intro hM (And.intro hB2 hB)))
      clear ho2 hO hi hsz hi2 hO2 hB2 hB tt rw2 bw2 hk hS f1 f2 f5 f7 hM kG
      gi_wp2_with (first
        | (refine ⟨trivial, CallsIn.inRound _ (callsIn_wide.2 (Calls.mono (kS2 _ _ _ (HO2.out.rv.below H7.out.2) H7.out.1) ?_))⟩; rintro e w8 ⟨rfl, n8, hw8⟩; have H8 : Hid (Below W2.heap.size W2 w8) := hide (by rw [hw8]; exact H7.out.2.trans ((below_drew _ _).mono H7.out.2.size)); clear hw8; dsimp only)
        | (refine ⟨trivial, CallsIn.inRound _ (callsIn_wide.2 (Calls.mono kG2 ?_))⟩; rintro e w7 ⟨a7, c7, rfl, r7, b7⟩; have H7 := hide (And.intro r7 b7); clear r7 b7; dsimp only))
      clear kG2 kS2 bq d1 d2 d3 d4 ct t1 t2 nc
      obtain ⟨W8, rfl⟩ : ∃ q, q = w8 := ⟨_, rfl⟩
      have hrow : (∀ g, a = some ⟨g, 0, none⟩ → B ≤ g ∧ ∃ cur, W8.heap[g]? = some (.cells cur 43 (0, 0)) ∧ M * 5 ≤ cur.size) ∧ (M ≠ 0 → ∃ g, a = some ⟨g, 0, none⟩) := by
        have hO8 := HO2.out.below H8.out
        constructor
        · rintro g rfl
          rcases hO8.2 with ⟨q, _⟩ | ⟨g', cap, cur, q, hb, hg, q1, q2, q3, q4⟩
          · cases q
          · simp only [Value.slice.injEq, Option.some.injEq, Addr.mk.injEq] at q
            obtain ⟨⟨rfl, -, -⟩, -, rfl⟩ := q
            refine ⟨hb, cur, hg, ?_⟩
            rw [q3]
            have := HTC.out.2.1
            omega
        · intro hne
          rcases hO8.shape with ⟨_, q⟩ | ⟨g', cap, q, _⟩
          · exact absurd (by rw [HTC.out.2.1, q]; rfl) hne
          · simp only [Value.slice.injEq] at q; exact ⟨g', q.1⟩
      have HRW := hide hrow
      clear hrow
      gi_loopw [15] (fun v15 wr => ∃ i : Nat, i ≤ M ∧ v15 = .int .i64 (i : Nat) ∧ Hid (Only (fun j => ∃ g, a = some ⟨g, 0, none⟩ ∧ j = g) W8 wr ∧ ∀ g, a = some ⟨g, 0, none⟩ → ∃ cur, wr.heap[g]? = some (.cells cur 43 (0, 0)) ∧ M * 5 ≤ cur.size)) (fun v15 _ => M - (intOf v15).toNat)
      case atStart => exact ⟨0, Nat.zero_le _, rfl, hide ⟨Only.refl _ _, fun g e => (HRW.out.1 g e).2⟩⟩
      case round =>
        obtain ⟨i, hiM, rfl, HI⟩ := hrel
        by_cases hgo : i < M
        · have z1 : (i : Int) < (M : Int) := by omega
          have z2 : decide (i < M) = true := by simpa using hgo
          obtain ⟨g, rfl⟩ := HRW.out.2 (by omega)
          obtain ⟨cur, hcur, hsz⟩ := HI.out.2 g rfl
          obtain ⟨o5, cur', h5, hs5⟩ := z5_says (o := i * 5) hcur
          have hle : i * 5 + 5 ≤ cur.size := by omega
          have H9 := hide (And.intro o5 (And.intro h5 hs5))
          have HSZ9 := hide hsz
          clear o5 h5 hs5 hsz
          gi_wp2_with (refine skip_in (OP := .store 43 (.tmp 100) (.tmp 99)) (T := 0) rfl rfl rfl rfl (by intro c e; cases e) (exec_st43 (g := g) (o := i * 5) (by first | rfl | simp) rfl hcur hle) ?_)
          go_roundw
          case rel => exact ⟨i + 1, by omega, by go_num, hide ⟨HI.out.1.next (H9.out.1.mono (fun j _ e => ⟨g, rfl, e⟩)), fun g' e => by injection e with e; injection e with e; subst e; exact ⟨_, H9.out.2.1, by rw [H9.out.2.2]; exact HSZ9.out⟩⟩⟩
          case measure => simp [intOf]; omega
        · obtain rfl : i = M := by omega
          have z1 : ¬ (i : Int) < (i : Int) := by omega
          have z2 : decide (i < i) = false := by simp
          have o29 : Only (fun j => B ≤ j) W2 wr := (below_only H8.out).trans HI.out.1 (fun j _ e => by obtain ⟨g, e, hj⟩ := e; show B ≤ j; rw [hj]; exact (HRW.out.1 g e).1)
          have i9 : GI wA0 Nb0 k wr := HI2.out.other HSA0.out.2.1 (o29.mono (fun j _ e => by have e' : B ≤ j := e; have := HTC.out.2.2.2; show wA0.heap.size ≤ j; omega))
          have cN : wr.cell? ⟨Nb0, 0, none⟩ = some (.int .i64 (k : Nat)) := (cell_of_row _ _ 0 _ 3 (0, 0) i9.2).trans rfl
          have fN : wr.frozen? ⟨Nb0, 0, none⟩ = false := frozen_of_row _ _ 0 _ 3 i9.2
          have t9 : wr.cell? ⟨Tb0, 0, none⟩ = some (.int .i64 0) := o29.cell HTC.out.1 (fun e => by have e' : B ≤ Tb0 := e; have := HTC.out.2.2.2; have := HSA0.out; omega)
          obtain ⟨K1, hK1⟩ : ∃ q : Int, q = ((k + 1 : Nat) : Int) := ⟨_, rfl⟩
          have hk1 : wrap64 ((k : Int) + 1) = K1 := by rw [hK1]; unfold wrap64; omega
          obtain ⟨u, o⟩ := set_one (i := 0) (.int .i64 K1) i9.2
          have u' : (wr.setCell ⟨Nb0, 0, none⟩ (.int .i64 K1)).heap[Nb0]? = some (.cells #[.int .i64 K1] 3 (0, 0)) := by simpa using u
          have cN4 : (wr.setCell ⟨Nb0, 0, none⟩ (.int .i64 K1)).cell? ⟨Nb0, 0, none⟩ = some (.int .i64 K1) := (cell_of_row _ _ 0 _ 3 (0, 0) u').trans rfl
          have t4 : (wr.setCell ⟨Nb0, 0, none⟩ (.int .i64 K1)).cell? ⟨Tb0, 0, none⟩ = some (.int .i64 0) := o.cell t9 (fun e => by have e' : Tb0 = Nb0 := e; have := HSA0.out; omega)
          have HX : Hid (Only (fun j => j = Nb0 ∨ B ≤ j) W2 (wr.setCell ⟨Nb0, 0, none⟩ (.int .i64 K1)) ∧ GI wA0 Nb0 (k + 1) (wr.setCell ⟨Nb0, 0, none⟩ (.int .i64 K1)) ∧ K1 = ((k + 1 : Nat) : Int)) := hide ⟨(o29.mono (fun j _ e => .inr e)).next (o.mono (fun j _ e => .inl e)), ⟨i9.1.next (o.mono (fun j _ e => .inl e)), by rw [← hK1]; exact u'⟩, hK1⟩
          clear HI HRW H8 HI2 HO2 HTC o29 i9 u o u' hK1 hM4 hkl hiM hgo t9
          by_cases hlv : K1 = 1
          · subst hlv
            have hg : GI wA0 Nb0 1 (wr.setCell ⟨Nb0, 0, none⟩ (.int .i64 1)) := by
              have h1 := HX.out.2.1
              have h2 : k + 1 = 1 := by have := HX.out.2.2; omega
              rw [h2] at h1
              exact h1
            have HGG := hide hg
            clear hg
            gi_wp2
            refine ⟨HX.out.1, ?_⟩
            first | exact ⟨rfl, rfl, HGG.out⟩ | exact ⟨rfl, trivial, HGG.out⟩ | exact ⟨rfl, HGG.out⟩
          · have e1 : (K1 == 1) = false := by simpa using hlv
            gi_wp2
            exact ⟨HX.out.1, HX.out.2.1⟩
  case hdone0 =>
    rintro wv0 ⟨k, hk, hi⟩ hlt hK0
    have nc : wv0.cell? ⟨Nb0, 0, none⟩ = some (.int .i64 (k : Nat)) := (cell_of_row _ _ 0 _ 3 (0, 0) hi.2).trans rfl
    obtain ⟨f1, -, -, -, -, -, -⟩ := HFA.out wA0 HG0.out.2.2.1
    have l1 := hi.1.cell f1 (fun e => by have e' : Wb = Nb0 ∨ wA0.heap.size ≤ Wb := e; have := HSA0.out; have := HSZ.out; omega)
    have tc := hi.1.cell HG0.out.1 (fun e => by have e' : Tb0 = Nb0 ∨ wA0.heap.size ≤ Tb0 := e; have := HSA0.out; omega)
    have HB1 : Hid (Below W5.heap.size W5 wv0) := hide (Below.only HG0.out.2.2.1 hi.1 HG0.out.2.2.1.size (fun j e => by have e' : j = Nb0 ∨ wA0.heap.size ≤ j := e; have := HSA0.out; omega))
    have HV0 := hide (And.intro hK0 (And.intro hlt hi))
    clear hit hi hlt hK0 f1
    clear hk
    go_wp2
    rw [rounds_succ]
    go_wp2
    clear nc l1 tc
    obtain ⟨wA1, hwA⟩ : ∃ q, q = (wv0.alloc (.cells #[.int .i64 1] 3)).alloc (.cells #[.int .i64 0] 3) := ⟨_, rfl⟩
    obtain ⟨g0, g1⟩ := new2 wv0 (.cells #[.int .i64 1] 3) (.cells #[.int .i64 0] 3)
    have bA : Below wv0.heap.size wv0 wA1 := by rw [hwA]; exact ((Below.refl _ wv0).alloc (Nat.le_refl _) _).alloc (by simp) _
    rw [← hwA] at g0 g1 ⊢
    have hsA : wA1.heap.size = wv0.heap.size + 2 := by rw [hwA]; simp
    obtain ⟨Tb1, hTb⟩ : ∃ q, q = wv0.heap.size := ⟨_, rfl⟩
    obtain ⟨Nb1, hNb'⟩ : ∃ q, q = wv0.heap.size + 1 := ⟨_, rfl⟩
    rw [← hNb'] at g1 ⊢
    rw [← hTb] at g0 ⊢
    have b5A : Below W5.heap.size W5 wA1 := HB1.out.trans (bA.mono HB1.out.size)
    have hBC : W5.heap.size ≤ wv0.heap.size := HB1.out.size
    have f3 := (HFA.out wA1 b5A).2.2.1
    have f4 := (HFA.out wA1 b5A).2.2.2.1
    have hit := iterG LT Lb aL cL wA1 (by rw [HLT.out]; omega) (by rw [HLT.out]; exact f3) f4 (fun a ha => Nat.lt_of_lt_of_le (HKL.out.1 _ (.inr ⟨a, ha, rfl⟩)) b5A.size)
    rw [HTT.out.2.2.2] at hit
    have g0c : wA1.cell? ⟨Tb1, 0, none⟩ = some (.int .i64 1) := (cell_of_row _ _ 0 _ 3 (0, 0) g0).trans rfl
    have HSA1 : Hid (Tb1 < wA1.heap.size ∧ Nb1 < wA1.heap.size ∧ Tb1 ≠ Nb1 ∧ W5.heap.size ≤ Tb1 ∧ W5.heap.size ≤ Nb1 ∧ wv0.heap.size ≤ Nb1 ∧ W5.heap.size ≤ wA1.heap.size ∧ wv0.heap.size ≤ wA1.heap.size) := hide (by omega)
    have HG1 := hide (And.intro g0c (And.intro g1 (And.intro b5A bA)))
    clear g0 g1 bA hsA hTb hNb' b5A hBC f3 f4 g0c hwA
    refine range_irx (Q := _) 133 enters133 _ (TL.map fun X => (X, stL X l)) EG _ hit rfl (fun B W x args ⟨a, c, e, _⟩ => by rw [e]; rfl) (fun j hj => by have := HKL.out.1 j hj; have := HSA1.out; omega) (fun j => j = Nb1) (fun j e hj => by have := HKL.out.1 j hj; have := HSA1.out; have e' : j = Nb1 := e; omega) (fun j e => by have := HSA1.out; have e' : j = Nb1 := e; omega) 2 (fun _ _ h => h)
      (GI wA1 Nb1) (fun W => ((1 : Nat) = 0) ∧ GI wA1 Nb1 1 W) (fun W => ∃ k : Nat, (k = MT ∨ ((1 : Nat) = 0)) ∧ GI wA1 Nb1 k W)
      (fun k W W' hi ho => hi.other HSA1.out.2.1 ho) (fun W W' hi ho => ⟨hi.1, hi.2.other HSA1.out.2.1 ho⟩) (fun W hb => ⟨below_only hb, (hb.block _ HSA1.out.2.1).trans HG1.out.2.1⟩) (fun W hi => ⟨_, .inl (by rw [List.length_map]; exact HTT.out.2.2.1.symm), hi⟩) (fun W hi => ⟨1, .inr hi.1, hi.2⟩) ?hround1 ?hdone1
    case hround1 =>
      as_aux_lemma =>
        rintro B k ⟨X, S⟩ args W hB hx ⟨a, cS, rfl, hO⟩ hi hsz
        obtain ⟨hk, hS, hkl⟩ := G_at hx
        rw [← HTT.out.2.2.1] at hkl
        clear hit hx
        dsimp only
        gi_wp2
        refine ⟨Only.refl _ _, fun W2 ho2 => ?_⟩
        have hi2 := hi.other HSA1.out.2.1 (ho2.mono (fun j _ e => by have e' : j = wA1.heap.size + 1 := e; show wA1.heap.size ≤ j; omega))
        have hO2 : Ov W2 B (.slice a S.length cS) S := hO.only ho2 (fun j hj e => by have e' : j = wA1.heap.size + 1 := e; have := World.ownsRow.lt hO j hj; omega)
        have hB2 : B ≤ W2.heap.size := by have := ho2.size; omega
        obtain ⟨f1, f2, -, -, f5, -, f7⟩ := HFA.out wA1 HG1.out.2.2.1
        have t1 := hi2.1.cell f1 (fun e => by have e' : Wb = Nb1 ∨ wA1.heap.size ≤ Wb := e; have := HSA1.out; have := HSZ.out; omega)
        have t2 := hi2.1.cell f2 (fun e => by have e' : Lq = Nb1 ∨ wA1.heap.size ≤ Lq := e; have := HSA1.out; have := HSZ.out; omega)
        have tt := hi2.1.cell HG1.out.1 (fun e => by have e' : Tb1 = Nb1 ∨ wA1.heap.size ≤ Tb1 := e; have := HSA1.out; omega)
        have rw2 : Rs W2 aW TL := f5.only hi2.1 (fun x hx e => by have e' : x.block = Nb1 ∨ wA1.heap.size ≤ x.block := e; have := HKL.out.2 x hx; have := HSA1.out; omega)
        have bw2 : Below w.heap.size w W2 := Below.only f7 hi2.1 f7.size (fun j e => by have e' : j = Nb1 ∨ wA1.heap.size ≤ j := e; have := HSA1.out; have := HSZ.out; omega)
        have nc : W2.cell? ⟨Nb1, 0, none⟩ = some (.int .i64 (k : Nat)) := (cell_of_row _ _ 0 _ 3 (0, 0) hi2.2).trans rfl
        obtain ⟨ab, off, haW, ct⟩ := rw2.at hk
        have HAW := hide haW
        subst haW
        have kG2 := kG W2 X bw2
        rw [hS] at kG2
        obtain ⟨M, hM⟩ : ∃ q, q = S.length := ⟨_, rfl⟩
        have hM4 : M ≤ 400 := by have := stL_len X l; rw [hS] at this; have := HTT.out.1; omega
        have kS2 := fun (W' : World) (a7 : Option Addr) (c7 : Nat) (h1 : Rv W' a S) (h2 : Rv W' a7 S) => same116 (c := cS) (d := c7) h1 h2 (by omega)
        rw [← hM] at kG2 hO2
        simp only [← hM] at kS2
        rw [← hM]
        have bq : (X.toList == X.toList) = true := by simp
        have d1 : decide (MT ≤ k) = false := by simp; omega
        have d2 : ¬ (MT : Int) ≤ (k : Int) := by omega
        have d3 : (k : Int) < (MT : Int) := by omega
        have d4 : decide (k < MT) = true := by simpa using hkl
        have HI2 := hide hi2
        have HO2 := hide hO2
        have HTC := hide (And.intro tt (And.intro hM (And.intro hB2 hB)))
        clear ho2 hO hi hsz hi2 hO2 hB2 hB tt rw2 bw2 hk hS f1 f2 f5 f7 hM kG
        gi_wp2_with (first
          | (refine ⟨trivial, CallsIn.inRound _ (callsIn_wide.2 (Calls.mono (kS2 _ _ _ (HO2.out.rv.below H7.out.2) H7.out.1) ?_))⟩; rintro e w8 ⟨rfl, n8, hw8⟩; have H8 : Hid (Below W2.heap.size W2 w8) := hide (by rw [hw8]; exact H7.out.2.trans ((below_drew _ _).mono H7.out.2.size)); clear hw8; dsimp only)
          | (refine ⟨trivial, CallsIn.inRound _ (callsIn_wide.2 (Calls.mono kG2 ?_))⟩; rintro e w7 ⟨a7, c7, rfl, r7, b7⟩; have H7 := hide (And.intro r7 b7); clear r7 b7; dsimp only))
        clear kG2 kS2 bq d1 d2 d3 d4 ct t1 t2 nc
        obtain ⟨W8, rfl⟩ : ∃ q, q = w8 := ⟨_, rfl⟩
        have hrow : (∀ g, a = some ⟨g, 0, none⟩ → B ≤ g ∧ ∃ cur, W8.heap[g]? = some (.cells cur 43 (0, 0)) ∧ M * 5 ≤ cur.size) ∧ (M ≠ 0 → ∃ g, a = some ⟨g, 0, none⟩) := by
          have hO8 := HO2.out.below H8.out
          constructor
          · rintro g rfl
            rcases hO8.2 with ⟨q, _⟩ | ⟨g', cap, cur, q, hb, hg, q1, q2, q3, q4⟩
            · cases q
            · simp only [Value.slice.injEq, Option.some.injEq, Addr.mk.injEq] at q
              obtain ⟨⟨rfl, -, -⟩, -, rfl⟩ := q
              refine ⟨hb, cur, hg, ?_⟩
              rw [q3]
              have := HTC.out.2.1
              omega
          · intro hne
            rcases hO8.shape with ⟨_, q⟩ | ⟨g', cap, q, _⟩
            · exact absurd (by rw [HTC.out.2.1, q]; rfl) hne
            · simp only [Value.slice.injEq] at q; exact ⟨g', q.1⟩
        have HRW := hide hrow
        clear hrow
        gi_loopw [15] (fun v15 wr => ∃ i : Nat, i ≤ M ∧ v15 = .int .i64 (i : Nat) ∧ Hid (Only (fun j => ∃ g, a = some ⟨g, 0, none⟩ ∧ j = g) W8 wr ∧ ∀ g, a = some ⟨g, 0, none⟩ → ∃ cur, wr.heap[g]? = some (.cells cur 43 (0, 0)) ∧ M * 5 ≤ cur.size)) (fun v15 _ => M - (intOf v15).toNat)
        case atStart => exact ⟨0, Nat.zero_le _, rfl, hide ⟨Only.refl _ _, fun g e => (HRW.out.1 g e).2⟩⟩
        case round =>
          obtain ⟨i, hiM, rfl, HI⟩ := hrel
          by_cases hgo : i < M
          · have z1 : (i : Int) < (M : Int) := by omega
            have z2 : decide (i < M) = true := by simpa using hgo
            obtain ⟨g, rfl⟩ := HRW.out.2 (by omega)
            obtain ⟨cur, hcur, hsz⟩ := HI.out.2 g rfl
            obtain ⟨o5, cur', h5, hs5⟩ := z5_says (o := i * 5) hcur
            have hle : i * 5 + 5 ≤ cur.size := by omega
            have H9 := hide (And.intro o5 (And.intro h5 hs5))
            have HSZ9 := hide hsz
            clear o5 h5 hs5 hsz
            gi_wp2_with (refine skip_in (OP := .store 43 (.tmp 100) (.tmp 99)) (T := 0) rfl rfl rfl rfl (by intro c e; cases e) (exec_st43 (g := g) (o := i * 5) (by first | rfl | simp) rfl hcur hle) ?_)
            go_roundw
            case rel => exact ⟨i + 1, by omega, by go_num, hide ⟨HI.out.1.next (H9.out.1.mono (fun j _ e => ⟨g, rfl, e⟩)), fun g' e => by injection e with e; injection e with e; subst e; exact ⟨_, H9.out.2.1, by rw [H9.out.2.2]; exact HSZ9.out⟩⟩⟩
            case measure => simp [intOf]; omega
          · obtain rfl : i = M := by omega
            have z1 : ¬ (i : Int) < (i : Int) := by omega
            have z2 : decide (i < i) = false := by simp
            have o29 : Only (fun j => B ≤ j) W2 wr := (below_only H8.out).trans HI.out.1 (fun j _ e => by obtain ⟨g, e, hj⟩ := e; show B ≤ j; rw [hj]; exact (HRW.out.1 g e).1)
            have i9 : GI wA1 Nb1 k wr := HI2.out.other HSA1.out.2.1 (o29.mono (fun j _ e => by have e' : B ≤ j := e; have := HTC.out.2.2.2; show wA1.heap.size ≤ j; omega))
            have cN : wr.cell? ⟨Nb1, 0, none⟩ = some (.int .i64 (k : Nat)) := (cell_of_row _ _ 0 _ 3 (0, 0) i9.2).trans rfl
            have fN : wr.frozen? ⟨Nb1, 0, none⟩ = false := frozen_of_row _ _ 0 _ 3 i9.2
            have t9 : wr.cell? ⟨Tb1, 0, none⟩ = some (.int .i64 1) := o29.cell HTC.out.1 (fun e => by have e' : B ≤ Tb1 := e; have := HTC.out.2.2.2; have := HSA1.out; omega)
            obtain ⟨K1, hK1⟩ : ∃ q : Int, q = ((k + 1 : Nat) : Int) := ⟨_, rfl⟩
            have hk1 : wrap64 ((k : Int) + 1) = K1 := by rw [hK1]; unfold wrap64; omega
            obtain ⟨u, o⟩ := set_one (i := 0) (.int .i64 K1) i9.2
            have u' : (wr.setCell ⟨Nb1, 0, none⟩ (.int .i64 K1)).heap[Nb1]? = some (.cells #[.int .i64 K1] 3 (0, 0)) := by simpa using u
            have cN4 : (wr.setCell ⟨Nb1, 0, none⟩ (.int .i64 K1)).cell? ⟨Nb1, 0, none⟩ = some (.int .i64 K1) := (cell_of_row _ _ 0 _ 3 (0, 0) u').trans rfl
            have t4 : (wr.setCell ⟨Nb1, 0, none⟩ (.int .i64 K1)).cell? ⟨Tb1, 0, none⟩ = some (.int .i64 1) := o.cell t9 (fun e => by have e' : Tb1 = Nb1 := e; have := HSA1.out; omega)
            have HX : Hid (Only (fun j => j = Nb1 ∨ B ≤ j) W2 (wr.setCell ⟨Nb1, 0, none⟩ (.int .i64 K1)) ∧ GI wA1 Nb1 (k + 1) (wr.setCell ⟨Nb1, 0, none⟩ (.int .i64 K1)) ∧ K1 = ((k + 1 : Nat) : Int)) := hide ⟨(o29.mono (fun j _ e => .inr e)).next (o.mono (fun j _ e => .inl e)), ⟨i9.1.next (o.mono (fun j _ e => .inl e)), by rw [← hK1]; exact u'⟩, hK1⟩
            clear HI HRW H8 HI2 HO2 HTC o29 i9 u o u' hK1 hM4 hkl hiM hgo t9
            gi_wp2
            exact ⟨HX.out.1, HX.out.2.1⟩
    case hdone1 =>
      rintro wv1 ⟨k, hk, hi⟩ hlt hK0
      have nc : wv1.cell? ⟨Nb1, 0, none⟩ = some (.int .i64 (k : Nat)) := (cell_of_row _ _ 0 _ 3 (0, 0) hi.2).trans rfl
      obtain ⟨f1, -, -, -, -, -, -⟩ := HFA.out wA1 HG1.out.2.2.1
      have l1 := hi.1.cell f1 (fun e => by have e' : Wb = Nb1 ∨ wA1.heap.size ≤ Wb := e; have := HSA1.out; have := HSZ.out; omega)
      have tc := hi.1.cell HG1.out.1 (fun e => by have e' : Tb1 = Nb1 ∨ wA1.heap.size ≤ Tb1 := e; have := HSA1.out; omega)
      have HB2 : Hid (Below W5.heap.size W5 wv1) := hide (Below.only HG1.out.2.2.1 hi.1 HG1.out.2.2.1.size (fun j e => by have e' : j = Nb1 ∨ wA1.heap.size ≤ j := e; have := HSA1.out; omega))
      have HV1 := hide (And.intro hK0 (And.intro hlt hi))
      clear hit hi hlt hK0 f1
      obtain rfl : k = MT := hk.elim id (fun e => absurd e (by decide))
      clear hk
      have bA1 := HG1.out.2.2.2
      have x0 : wv1.heap[wA0.heap.size]? = some (.deferred (some [])) := (HV1.out.2.2.1.block _ (Nat.lt_of_lt_of_le HV0.out.2.1 bA1.size) (fun e => by have e' : wA0.heap.size = Nb1 ∨ wA1.heap.size ≤ wA0.heap.size := e; have := HSA1.out; have := HV0.out.2.1; have := HSA0.out; omega)).trans ((bA1.block _ HV0.out.2.1).trans HV0.out.1)
      have b9 : Below wv1.heap.size wv1 (wv1.alloc (.cells #[.int .i64 2] 3)) := (Below.refl _ wv1).alloc (Nat.le_refl _) _
      obtain ⟨W9, hW9⟩ : ∃ q, q = wv1.alloc (.cells #[.int .i64 2] 3) := ⟨_, rfl⟩
      have c9 : W9.cell? ⟨wv1.heap.size, 0, none⟩ = some (.int .i64 2) := by rw [hW9]; exact (cell_of_row _ _ 0 _ 3 (0, 0) (heap_alloc_new wv1 _)).trans rfl
      rw [← hW9] at b9
      have rR := (HFA.out W9 (HB2.out.trans (b9.mono HB2.out.size))).2.2.2.2.2.1
      have bw9 := (HFA.out W9 (HB2.out.trans (b9.mono HB2.out.size))).2.2.2.2.2.2
      have cr : W9.cell? ⟨Rb, 0, none⟩ = some (.bool false) := (cell_of_row _ _ 0 _ 4 (0, 0) rR).trans rfl
      have fr : W9.frozen? ⟨Rb, 0, none⟩ = false := frozen_of_row _ _ 0 _ 4 rR
      obtain ⟨s5, o5⟩ := set_one (i := 0) (.bool true) rR
      have k1 := (o5.block _ (Nat.lt_of_lt_of_le HV1.out.2.1 b9.size) (fun e => by have e' : wA1.heap.size = Rb := e; have := HSZ.out; have := HSA1.out; omega)).trans ((b9.block _ HV1.out.2.1).trans HV1.out.1)
      have k0 := (o5.block _ (Nat.lt_of_lt_of_le (gI x0).1 b9.size) (fun e => by have e' : wA0.heap.size = Rb := e; have := HSZ.out; have := HSA0.out; omega)).trans ((b9.block _ (gI x0).1).trans x0)
      have hcell : (W9.setCell ⟨Rb, 0, none⟩ (.bool true)).cell? ⟨Rb, 0, none⟩ = some (.bool true) := (cell_of_row _ _ 0 _ 4 (0, 0) s5).trans rfl
      have o1 := only_putObj (W9.setCell ⟨Rb, 0, none⟩ (.bool true)) wA1.heap.size (.deferred none)
      have k0' := (o1.block wA0.heap.size (gI k0).1 (fun e => by have e' : wA0.heap.size = wA1.heap.size := e; have := HV0.out.2.1; have := HSA1.out; omega)).trans k0
      have o2 := only_putObj ((W9.setCell ⟨Rb, 0, none⟩ (.bool true)).putObj wA1.heap.size (.deferred none)) wA0.heap.size (.deferred none)
      have p5 := Below.only bw9 o5 bw9.size (fun j e => by have e' : j = Rb := e; have := HSZ.out; omega)
      have p6 := Below.only p5 o1 p5.size (fun j e => by have e' : j = wA1.heap.size := e; have := HSZ.out; have := HSA1.out; omega)
      have p7 := Below.only p6 o2 p6.size (fun j e => by have e' : j = wA0.heap.size := e; have := HSZ.out; have := HSA0.out; omega)
      have HE := hide (And.intro k1 (And.intro k0' (And.intro (o2.cell (o1.cell hcell (fun e => by have e' : Rb = wA1.heap.size := e; have := HSZ.out; have := HSA1.out; omega)) (fun e => by have e' : Rb = wA0.heap.size := e; have := HSZ.out; have := HSA0.out; omega)) p7)))
      have HW9 := hide hW9
      clear bA1 x0 b9 hW9 rR bw9 s5 o5 k1 k0 hcell o1 k0' o2 p5 p6 p7
      go_wp2
      rw [rounds_succ, ← HW9.out]
      go_wp2
      refine ret_lv ?_
      dsimp only
      exact leave_mark (fn := Tryz.f23) HE.out.1 (leave_mark HE.out.2.1 (leave_cell2 Rb (x := true) rfl rfl HE.out.2.2.1 ⟨rfl, HE.out.2.2.2⟩))
end Go.Proofs.YtkkpdgfllnbigaaGreat.Tg
