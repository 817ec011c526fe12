/-
  walk: A REGION OF THE WALK'S CLOSURE: three calls in a row, and three boxes that may be made at any time.
  walk: WHAT THE WALK'S CLOSURE HAS, AND WHAT IT LEAVES ALONE.
  walk: THE WALK: the closure 31 of Run.
  walk: HOW MANY NODES ARE NEW: made 36 and its closure 55.
  walk: made 36.
  walk: Run 18.
-/
import Derived.Test.YtkkpdgfllnbigaaGreatMg12
import Derived.Test.YtkkpdgfllnbigaaGreatMg13
namespace Go.Proofs.YtkkpdgfllnbigaaGreat.Pm
open Go.RowKit Go.Shelf
set_option linter.unusedSimpArgs false

section
variable {P : Program} {md : Region.Mode} {ops : Array Oper} {Q : Exit → Act → World → Prop} {S : World → Prop}
theorem AllReadyH.call {i : Nat} {oi : Oper} {d : Tmp} {OP : Op} {T : TypeId} {f : FuncId} {args : Array Value} {fuel : Nat} {listed : Array Bool} {a : Act} {w : World} {rs : List Nat} (hi : ops[i]? = some oi) (hd : oi.dst = some d) (ho : oi.op = OP) (ht : oi.type = T) (hw : Region.wanted oi (yielded ops a.tmps) = true)
    (hy : (execOp a.eval { dst := none, op := OP, type := T, pos := "", after := #[], guard := none }).run P w = .ok (.enter f args) w)
    (h : Calls P f args w fun e w' => ∃ v, e = .returned v ∧ S w' ∧ wpAnyH P md ops Q S fuel (listed.setIfInBounds i true) (a.put (some d) v) w')
    (hs : AllReadyH P md ops Q S fuel listed a w rs) : AllReadyH P md ops Q S fuel listed a w (i :: rs) := by
  refine AllReadyH.cons hi (fun K hK => ?_) hs
  rw [if_pos hw]
  unfold Oper.wp
  rw [exec_same a.eval oi ho ht, hy]
  refine Calls.mono h ?_
  rintro e w' ⟨v, rfl, hS, hx⟩
  show K (a.put oi.dst v) w'
  rw [hd]
  exact hK.out _ _ hS (fun _ => hx)
theorem AllReadyH.turn {i : Nat} {oi : Oper} {d : Tmp} {OP : Op} {T : TypeId} {v : Value} {fuel : Nat} {listed : Array Bool} {a : Act} {w w' : World} {rs : List Nat} (hi : ops[i]? = some oi) (hd : oi.dst = some d) (ho : oi.op = OP) (ht : oi.type = T) (hw : Region.wanted oi (yielded ops a.tmps) = true)
    (hy : (execOp a.eval { dst := none, op := OP, type := T, pos := "", after := #[], guard := none }).run P w = .ok (.value v) w') (hS : S w')
    (h : wpAnyH P md ops Q S fuel (listed.setIfInBounds i true) (a.put (some d) v) w')
    (hs : AllReadyH P md ops Q S fuel listed a w rs) : AllReadyH P md ops Q S fuel listed a w (i :: rs) := by
  refine AllReadyH.cons hi (fun K hK => ?_) hs
  rw [if_pos hw]
  unfold Oper.wp
  rw [exec_same a.eval oi ho ht, hy]
  show K (a.put oi.dst v) w'
  rw [hd]
  exact hK.out _ _ hS (fun _ => h)
end
theorem put_comm {a : Act} {i j : Nat} {v u : Value} (h : i ≠ j) : (a.put (some i) v).put (some j) u = (a.put (some j) u).put (some i) v := by
  simp only [Act.put]
  rw [Array.setIfInBounds_comm _ _ h]
/-- The region's operations. -/
def ops9 : Array Oper := #[{ dst := some 40, op := Go.Op.load 27 (Go.Operand.tmp 6), type := 27, pos := "walk.go:29", after := #[], guard := none }, { dst := some 41, op := Go.Op.move (Go.Operand.tmp 10), type := 9, pos := "walk.go:29", after := #[], guard := none }, { dst := some 42, op := Go.Op.call { callee := Go.Callee.value (Go.Operand.func 225), args := #[Go.Operand.tmp 40, Go.Operand.tmp 41], argTypes := #[27, 9] }, type := 213, pos := "walk.go:29", after := #[{ on := 0, ground := Go.Ground.data }, { on := 1, ground := Go.Ground.data }], guard := none }, { dst := some 43, op := Go.Op.load 27 (Go.Operand.tmp 7), type := 27, pos := "walk.go:29", after := #[], guard := none }, { dst := some 44, op := Go.Op.move (Go.Operand.tmp 10), type := 9, pos := "walk.go:29", after := #[], guard := none }, { dst := some 45, op := Go.Op.call { callee := Go.Callee.value (Go.Operand.func 225), args := #[Go.Operand.tmp 43, Go.Operand.tmp 44], argTypes := #[27, 9] }, type := 213, pos := "walk.go:29", after := #[{ on := 3, ground := Go.Ground.data }, { on := 4, ground := Go.Ground.data }, { on := 2, ground := Go.Ground.chain }], guard := none }, { dst := some 46, op := Go.Op.load 27 (Go.Operand.tmp 8), type := 27, pos := "walk.go:29", after := #[], guard := none }, { dst := some 47, op := Go.Op.move (Go.Operand.tmp 10), type := 9, pos := "walk.go:29", after := #[], guard := none }, { dst := some 48, op := Go.Op.call { callee := Go.Callee.value (Go.Operand.func 225), args := #[Go.Operand.tmp 46, Go.Operand.tmp 47], argTypes := #[27, 9] }, type := 213, pos := "walk.go:29", after := #[{ on := 6, ground := Go.Ground.data }, { on := 7, ground := Go.Ground.data }, { on := 5, ground := Go.Ground.chain }], guard := none }, { dst := some 11, op := Go.Op.alloc 213, type := 0, pos := "walk.go:29", after := #[], guard := none }, { dst := some 12, op := Go.Op.alloc 213, type := 0, pos := "walk.go:29", after := #[], guard := none }, { dst := some 13, op := Go.Op.alloc 213, type := 0, pos := "walk.go:29", after := #[], guard := none }, { dst := none, op := Go.Op.store 213 (Go.Operand.tmp 11) (Go.Operand.tmp 42), type := 0, pos := "walk.go:29", after := #[{ on := 9, ground := Go.Ground.data }, { on := 2, ground := Go.Ground.data }, { on := 8, ground := Go.Ground.chain }, { on := 0, ground := Go.Ground.phase }, { on := 1, ground := Go.Ground.phase }, { on := 2, ground := Go.Ground.phase }, { on := 3, ground := Go.Ground.textOnly Go.Departure.lateStores }, { on := 4, ground := Go.Ground.textOnly Go.Departure.lateStores }, { on := 5, ground := Go.Ground.textOnly Go.Departure.lateStoresUnsure }, { on := 6, ground := Go.Ground.textOnly Go.Departure.lateStores }, { on := 7, ground := Go.Ground.textOnly Go.Departure.lateStores }, { on := 8, ground := Go.Ground.textOnly Go.Departure.lateStoresUnsure }, { on := 9, ground := Go.Ground.phase }, { on := 10, ground := Go.Ground.phase }, { on := 11, ground := Go.Ground.phase }], guard := none }, { dst := none, op := Go.Op.store 213 (Go.Operand.tmp 12) (Go.Operand.tmp 45), type := 0, pos := "walk.go:29", after := #[{ on := 10, ground := Go.Ground.data }, { on := 5, ground := Go.Ground.data }, { on := 12, ground := Go.Ground.chain }, { on := 0, ground := Go.Ground.phase }, { on := 1, ground := Go.Ground.phase }, { on := 2, ground := Go.Ground.phase }, { on := 3, ground := Go.Ground.phase }, { on := 4, ground := Go.Ground.phase }, { on := 5, ground := Go.Ground.phase }, { on := 6, ground := Go.Ground.textOnly Go.Departure.lateStores }, { on := 7, ground := Go.Ground.textOnly Go.Departure.lateStores }, { on := 8, ground := Go.Ground.textOnly Go.Departure.lateStoresUnsure }, { on := 9, ground := Go.Ground.phase }, { on := 10, ground := Go.Ground.phase }, { on := 11, ground := Go.Ground.phase }, { on := 12, ground := Go.Ground.phase }], guard := none }, { dst := none, op := Go.Op.store 213 (Go.Operand.tmp 13) (Go.Operand.tmp 48), type := 0, pos := "walk.go:29", after := #[{ on := 11, ground := Go.Ground.data }, { on := 8, ground := Go.Ground.data }, { on := 13, ground := Go.Ground.chain }, { on := 0, ground := Go.Ground.phase }, { on := 1, ground := Go.Ground.phase }, { on := 2, ground := Go.Ground.phase }, { on := 3, ground := Go.Ground.phase }, { on := 4, ground := Go.Ground.phase }, { on := 5, ground := Go.Ground.phase }, { on := 6, ground := Go.Ground.phase }, { on := 7, ground := Go.Ground.phase }, { on := 8, ground := Go.Ground.phase }, { on := 9, ground := Go.Ground.phase }, { on := 10, ground := Go.Ground.phase }, { on := 11, ground := Go.Ground.phase }, { on := 12, ground := Go.Ground.phase }, { on := 13, ground := Go.Ground.phase }], guard := none }]
end Go.Proofs.YtkkpdgfllnbigaaGreat.Pm
namespace Go.Proofs.YtkkpdgfllnbigaaGreat.Pm
open Go.RowKit Go.Shelf
set_option linter.unusedSimpArgs false

/-- The types of the walk's own blocks. -/
def keepTy (e : TypeId) : Prop := e = 27 ∨ e = 213 ∨ e = 162 ∨ e = 208 ∨ e = 180
/-- Old blocks stand, and those of the walk's own types. -/
structure Goes (B Tk : Nat) (W W' : World) : Prop where
  low : Below B W W'
  own : ∀ (j : Nat) (cur : Array Value) (e : TypeId) (fr : Nat × Nat), W.heap[j]? = some (Obj.cells cur e fr) → keepTy e → W'.heap[j]? = some (Obj.cells cur e fr)
  cnt : ∀ (j : Nat) (cur : Array Value) (fr : Nat × Nat), W.heap[j]? = some (Obj.cells cur 136 fr) → j ≠ Tk → W'.heap[j]? = some (Obj.cells cur 136 fr)
theorem Goes.refl (B Tk : Nat) (W : World) : Goes B Tk W W := ⟨Below.refl _ _, fun _ _ _ _ h _ => h, fun _ _ _ h _ => h⟩
theorem Goes.trans {B Tk : Nat} {a b c : World} (h : Goes B Tk a b) (k : Goes B Tk b c) : Goes B Tk a c := ⟨h.low.trans k.low, fun j cur e fr hj he => k.own j cur e fr (h.own j cur e fr hj he) he, fun j cur fr hj he => k.cnt j cur fr (h.cnt j cur fr hj he) he⟩
theorem Goes.of {B Tk : Nat} {W W' : World} (h : Below W.heap.size W W') (hB : B ≤ W.heap.size) : Goes B Tk W W' := ⟨h.mono hB, fun _ _ _ _ hj _ => (h.block _ (gI hj).1).trans hj, fun _ _ _ hj _ => (h.block _ (gI hj).1).trans hj⟩
theorem In.goes {B Tk : Nat} {W W' : World} (h : Goes B Tk W W') : ∀ {t : T}, In W t → In W' t
  | .nil, _ => trivial
  | .node _ _ _ _ _, ⟨h1, h2, h3⟩ => ⟨h.own _ _ _ _ h1 (.inr (.inr (.inl rfl))), In.goes h h2, In.goes h h3⟩
/-- A block that is no block of the walk's own types is written. -/
theorem Goes.set {B Tk i : Nat} {W : World} {cs : Array Value} {ty : TypeId} (v : Value) (h : W.heap[Tk]? = some (.cells cs ty (0, 0))) (hB : B ≤ Tk) (hty : ¬ keepTy ty) : Goes B Tk W (W.setCell ⟨Tk, i, none⟩ v) := by
  obtain ⟨_, o⟩ := set_one (i := i) v h
  refine ⟨(Below.refl _ W).setCell (p := ⟨Tk, i, none⟩) hB _, fun j cur e fr hj he => ?_, fun j cur fr hj hne => (o.block j (gI hj).1 hne).trans hj⟩
  refine (o.block j (gI hj).1 (fun d => ?_)).trans hj
  subst d
  rw [h] at hj
  simp only [Option.some.injEq, Obj.cells.injEq] at hj
  exact hty (hj.2.1 ▸ he)
/-- A block that came later is written. -/
theorem Goes.later {B Tk C : Nat} {w W W' : World} (h : Goes B Tk w W) (o : Only (fun j => j = C) W W') (hC : w.heap.size ≤ C) (hB : B ≤ C) (hBw : B ≤ W.heap.size) : Goes B Tk w W' :=
  ⟨Below.only h.low o hBw (fun j e => by omega), fun j cur e fr hj he => (o.block j (Nat.lt_of_lt_of_le (gI hj).1 h.low.size) (fun d => by have := (gI hj).1; omega)).trans (h.own j cur e fr hj he), fun j cur fr hj he => (o.block j (Nat.lt_of_lt_of_le (gI hj).1 h.low.size) (fun d => by have := (gI hj).1; omega)).trans (h.cnt j cur fr hj he)⟩
/-- A rule that may be asked. -/
structure RuleOk (A : ByteArray → ByteArray × Bool → ByteArray × Bool → ByteArray × Bool → Prop) (B Tk : Nat) (g : Nat) (caps : Array Value) (R : ByteArray → ByteArray × Bool → ByteArray × Bool → ByteArray × Bool → ByteArray × Bool) (J : List ByteArray → World → Prop) : Prop where
  enter : ∀ (args : Array Value) (W : World), (callFunc g args).run Tryz.prog W = .ok (.enter g args) W
  call : ∀ (W : World) (ks : List ByteArray) (k : ByteArray) (p q r : ByteArray × Bool), B ≤ W.heap.size → A k p q r → ks.length ≤ 100000 → J ks W → Calls Tryz.prog g (#[.string k, pv p, pv q, pv r] ++ caps) W fun e W' => (∃ v, e = .returned (.tuple #[.string v, .bool (R k p q r).2]) ∧ ((R k p q r).2 = true → v = (R k p q r).1)) ∧ J (ks ++ [k]) W' ∧ Goes B Tk W W' ∧ ∀ (cur : Array Value) (fr : Nat × Nat), W.heap[Tk]? = some (.cells cur 136 fr) → W'.heap[Tk]? = some (.cells cur 136 fr)
  stay : ∀ (ks : List ByteArray) (W W' : World), J ks W → (∀ (j : Nat) (cur : Array Value) (e : TypeId) (fr : Nat × Nat), W.heap[j]? = some (Obj.cells cur e fr) → (j < B ∨ (e ≠ 27 ∧ e ≠ 213 ∧ (j ≠ Tk ∨ e ≠ 136))) → W'.heap[j]? = some (Obj.cells cur e fr)) → J ks W'
/-- What the closure has. -/
structure REnv (W : World) (Tk Rn Ru : Nat) (fv : Value) (x y z : Int) : Prop where
  run : W.heap[Rn]? = some (.cells #[.func (.func 223) #[] #[.pointer (some ⟨Tk, 0, none⟩), .pointer (some ⟨Rn, 0, none⟩), .pointer (some ⟨Ru, 0, none⟩)]] 208 (0, 0))
  rule : W.heap[Ru]? = some (.cells #[fv] 180 (0, 0))
  took : W.heap[Tk]? = some (.cells #[.int .i64 x, .int .i64 y, .int .i64 z] 136 (0, 0))
theorem REnv.below {W W' : World} {Tk Rn Ru : Nat} {fv : Value} {x y z : Int} (h : REnv W Tk Rn Ru fv x y z) (hb : Below W.heap.size W W') : REnv W' Tk Rn Ru fv x y z :=
  ⟨(hb.block _ (gI h.run).1).trans h.run, (hb.block _ (gI h.rule).1).trans h.rule, (hb.block _ (gI h.took).1).trans h.took⟩
/-- A box of a map is written. -/
theorem REnv.box {W W' : World} {C Tk Rn Ru : Nat} {fv u : Value} {x y z : Int} (h : REnv W Tk Rn Ru fv x y z) (hC : W.heap[C]? = some (.cells #[u] 27 (0, 0))) (o : Only (fun j => j = C) W W') : REnv W' Tk Rn Ru fv x y z := by
  refine ⟨(o.block _ (gI h.run).1 (fun e => ?_)).trans h.run, (o.block _ (gI h.rule).1 (fun e => ?_)).trans h.rule, (o.block _ (gI h.took).1 (fun e => ?_)).trans h.took⟩
  · have := h.run; rw [e, hC] at this; simp at this
  · have := h.rule; rw [e, hC] at this; simp at this
  · have := h.took; rw [e, hC] at this; simp at this
theorem RuleOk.box {A : ByteArray → ByteArray × Bool → ByteArray × Bool → ByteArray × Bool → Prop} {B Tk g C : Nat} {caps : Array Value} {R : ByteArray → ByteArray × Bool → ByteArray × Bool → ByteArray × Bool → ByteArray × Bool} {J : List ByteArray → World → Prop} (h : RuleOk A B Tk g caps R J) {ks : List ByteArray} {W W' : World} {u : Value} (hj : J ks W) (hC : W.heap[C]? = some (.cells #[u] 27 (0, 0))) (o : Only (fun j => j = C) W W') (hBC : B ≤ C) : J ks W' :=
  h.stay ks W W' hj (fun j cur e fr hjj hor => (o.block _ (gI hjj).1 (fun d => by
    rcases hor with hlt | ⟨h29, _, _⟩
    · omega
    · rw [d, hC] at hjj; simp only [Option.some.injEq, Obj.cells.injEq] at hjj; exact h29 hjj.2.1.symm)).trans hjj)
theorem RuleOk.set {A : ByteArray → ByteArray × Bool → ByteArray × Bool → ByteArray × Bool → Prop} {B Tk g : Nat} {caps : Array Value} {R : ByteArray → ByteArray × Bool → ByteArray × Bool → ByteArray × Bool → ByteArray × Bool} {J : List ByteArray → World → Prop} (h : RuleOk A B Tk g caps R J) {ks : List ByteArray} {W W' : World} (hj : J ks W) (o : Only (fun j => j = Tk) W W') (hB : B ≤ Tk) {cs : Array Value} {fr : Nat × Nat} (hT : W.heap[Tk]? = some (.cells cs 136 fr)) : J ks W' :=
  h.stay ks W W' hj (fun j cur e fr hjj hor => (o.block _ (gI hjj).1 (fun d => by
    rcases hor with hlt | ⟨_, _, hne | hne⟩
    · omega
    · exact hne d
    · rw [d, hT] at hjj; simp only [Option.some.injEq, Obj.cells.injEq] at hjj; exact hne hjj.2.1.symm)).trans hjj)
theorem RuleOk.below {A : ByteArray → ByteArray × Bool → ByteArray × Bool → ByteArray × Bool → Prop} {B Tk g : Nat} {caps : Array Value} {R : ByteArray → ByteArray × Bool → ByteArray × Bool → ByteArray × Bool → ByteArray × Bool} {J : List ByteArray → World → Prop} (h : RuleOk A B Tk g caps R J) {ks : List ByteArray} {W W' : World} (hj : J ks W) (hb : Below W.heap.size W W') : J ks W' :=
  h.stay ks W W' hj (fun _ _ _ _ hj _ => (hb.block _ (gI hj).1).trans hj)
/-- Three maps that may be run together. -/
structure Trio (V : ByteArray → ByteArray × Bool → Prop) (W : World) (o a b : T) : Prop where
  io : In W o
  ia : In W a
  ib : In W b
  so : Srt o.list
  sa : Srt a.list
  sb : Srt b.list
  bo : o.bal
  ba : a.bal
  bb : b.bal
  vo : ∀ k, V k (look k o.list)
  va : ∀ k, V k (look k a.list)
  vb : ∀ k, V k (look k b.list)
  no : o.n ≤ 1000
  nab : a.n + b.n ≤ 1000
theorem Trio.goes {V : ByteArray → ByteArray × Bool → Prop} {B Tk : Nat} {W W' : World} {o a b : T} (h : Trio V W o a b) (hg : Goes B Tk W W') : Trio V W' o a b := ⟨In.goes hg h.io, In.goes hg h.ia, In.goes hg h.ib, h.so, h.sa, h.sb, h.bo, h.ba, h.bb, h.vo, h.va, h.vb, h.no, h.nab⟩
/-- The two sides of three maps that are split. -/
theorem Trio.sides {V : ByteArray → ByteArray × Bool → Prop} {B : Nat} {W W' : World} {K : ByteArray} {o a b o1 o2 f a1 a2 g b1 b2 h : T} (ht : Trio V W o a b) (h0 : ∀ k, V k (⟨#[]⟩, false)) (so : Splits B K o o1 f o2) (sa : Splits B K a a1 g a2) (sb : Splits B K b b1 h b2) (i1 : In W' o1) (i2 : In W' o2) (i3 : In W' a1) (i4 : In W' a2) (i5 : In W' b1) (i6 : In W' b2) : Trio V W' o1 a1 b1 ∧ Trio V W' o2 a2 b2 := by
  have xo := so.sides ht.so
  have xa := sa.sides ht.sa
  have xb := sb.sides ht.sb
  obtain ⟨vo1, vo2⟩ := xo.valid h0 ht.vo
  obtain ⟨va1, va2⟩ := xa.valid h0 ht.va
  obtain ⟨vb1, vb2⟩ := xb.valid h0 ht.vb
  have e1 := xo.n
  have e2 := xa.n
  have e3 := xb.n
  have e4 := ht.no
  have e5 := ht.nab
  exact ⟨⟨i1, i3, i5, xo.asrt, xa.asrt, xb.asrt, (so.bal ht.bo).1, (sa.bal ht.ba).1, (sb.bal ht.bb).1, vo1, va1, vb1, by omega, by omega⟩, ⟨i2, i4, i6, xo.bsrt, xa.bsrt, xb.bsrt, (so.bal ht.bo).2, (sa.bal ht.ba).2, (sb.bal ht.bb).2, vo2, va2, vb2, by omega, by omega⟩⟩
/-- What the rule may be asked. -/
def AskOk (A : ByteArray → ByteArray × Bool → ByteArray × Bool → ByteArray × Bool → Prop) (o a b : T) : Prop := ∀ k, ((look k a.list).2 = true ∨ (look k b.list).2 = true) → A k (look k o.list) (look k a.list) (look k b.list)
theorem Sides.left_key {K k : ByteArray} {t a f b : T} (h : Sides K t a f b) (hk : (look k a.list).2 = true) : cmpB k K = -1 := by
  obtain ⟨y, hy, rfl⟩ := look_mem hk
  exact h.less y hy
theorem Sides.right_key {K k : ByteArray} {t a f b : T} (h : Sides K t a f b) (hk : (look k b.list).2 = true) : cmpB K k = -1 := by
  obtain ⟨y, hy, rfl⟩ := look_mem hk
  exact h.more y hy
theorem AskOk.sides {A : ByteArray → ByteArray × Bool → ByteArray × Bool → ByteArray × Bool → Prop} {K : ByteArray} {o a b o1 o2 f a1 a2 g b1 b2 h : T} (hk : AskOk A o a b) (xo : Sides K o o1 f o2) (xa : Sides K a a1 g a2) (xb : Sides K b b1 h b2) : AskOk A o1 a1 b1 ∧ AskOk A o2 a2 b2 := by
  refine ⟨fun k hh => ?_, fun k hh => ?_⟩
  · have hc : cmpB k K = -1 := hh.elim xa.left_key xb.left_key
    have := hk k (by rw [xa.below k hc, xb.below k hc]; exact hh)
    rw [xo.below k hc, xa.below k hc, xb.below k hc] at this
    exact this
  · have hc : cmpB K k = -1 := hh.elim xa.right_key xb.right_key
    have := hk k (by rw [xa.above k hc, xb.above k hc]; exact hh)
    rw [xo.above k hc, xa.above k hc, xb.above k hc] at this
    exact this
theorem AskOk.top {A : ByteArray → ByteArray × Bool → ByteArray × Bool → ByteArray × Bool → Prop} {K : ByteArray} {o a b o1 o2 f a1 a2 g b1 b2 h : T} (hk : AskOk A o a b) (xo : Sides K o o1 f o2) (xa : Sides K a a1 g a2) (xb : Sides K b b1 h b2) (ht : g.isSome = true ∨ h.isSome = true) : A K f.part g.part h.part := by
  have := hk K (by rw [xa.at_, xb.at_]; exact ht)
  rw [xo.at_, xa.at_, xb.at_] at this
  exact this
theorem Closes.mono {B B' : Nat} {l r t : T} (h : Closes B' l r t) (hB : B ≤ B') : Closes B l r t := by
  rcases h with h | ⟨hn, r', t0, ht, hj, e⟩
  · exact .inl h
  · exact .inr ⟨hn, r', t0, ht.mono hB, hj.mono hB, e⟩
theorem Runs.mono {B B' : Nat} {R : ByteArray → ByteArray × Bool → ByteArray × Bool → ByteArray × Bool → ByteArray × Bool} {o a b t : T} {ks : List ByteArray} (h : Runs B' R o a b t ks) (hB : B ≤ B') : Runs B R o a b t ks := by
  induction h with
  | same => exact .same
  | left h => exact .left h
  | right h => exact .right h
  | joins n1 n2 n3 so sa sb _ _ hr hj ih1 ih2 => exact .joins n1 n2 n3 (so.mono hB) (sa.mono hB) (sb.mono hB) ih1 ih2 hr (hj.mono hB)
  | closes n1 n2 n3 so sa sb _ _ hr hj hb ih1 ih2 => exact .closes n1 n2 n3 (so.mono hB) (sa.mono hB) (sb.mono hB) ih1 ih2 hr (hj.mono hB) hb
end Go.Proofs.YtkkpdgfllnbigaaGreat.Pm
namespace Go.Proofs.YtkkpdgfllnbigaaGreat.Pm
open Go.RowKit Go.Shelf
set_option linter.unusedSimpArgs false

theorem to_reg9 {P : Program} {md : Region.Mode} {ops ops' : Array Oper} {Q : Exit → Act → World → Prop} {S : World → Prop} {fuel : Nat} {l l' : Array Bool} {a : Act} {w : World} (ho : ops = ops') (hl : l = l') (h : wpAnyH P md ops' Q S fuel l' a w) : wpAnyH P md ops Q S fuel l a w := by subst ho hl; exact h
theorem cut_count {B : Nat} {a b a1 a2 g b1 b2 h : T} (n1 : a ≠ b) (sa : Splits B (topK a b) a a1 g a2) (sb : Splits B (topK a b) b b1 h b2) (Sa : Srt a.list) (Sb : Srt b.list) : a1.n + a2.n + b1.n + b2.n + 1 ≤ a.n + b.n := by
  have e1 := (sa.sides Sa).n
  have e2 := (sb.sides Sb).n
  rcases top_has n1 sa sb Sa Sb with e | e
  · rw [e] at e1; simp at e1; omega
  · rw [e] at e2; simp at e2; omega
/-- The sides of a split, as the walk has them. -/
def CutIs (B : Nat) (K : ByteArray) (o : T) (v : Value) (W : World) : Prop := ∃ o1 f o2, v = cv o1 o2 f ∧ Splits B K o o1 f o2 ∧ In W o1 ∧ In W o2
end Go.Proofs.YtkkpdgfllnbigaaGreat.Pm
namespace Go.Proofs.YtkkpdgfllnbigaaGreat.Pm
open Go.RowKit Go.Shelf
set_option linter.unusedSimpArgs false

/-- How many nodes of a map are none of those maps', as the program counts them. -/
def madeIn (os : List T) : T → Nat
  | .nil => 0
  | .node p k v l r => if os.any (fun o => decide (o.find k = .node p k v l r)) then 0 else madeIn os l + 1 + madeIn os r
theorem madeIn_le (os : List T) : ∀ t : T, madeIn os t ≤ t.n
  | .nil => Nat.le_refl _
  | .node p k v l r => by
    have h1 := madeIn_le os l
    have h2 := madeIn_le os r
    rw [madeIn]
    simp only [T.n]
    split <;> omega
/-- What the closure has. -/
structure MEnv (W : World) (Of Cn : Nat) (os : List T) : Prop where
  f : W.cell? ⟨Cn, 0, none⟩ = some (.func (.func 248) #[] #[.pointer (some ⟨Of, 0, none⟩), .pointer (some ⟨Cn, 0, none⟩)])
  ex : ∃ sb so cap, W.cell? ⟨Of, 0, none⟩ = some (.slice (some ⟨sb, so, none⟩) os.length cap) ∧ ∀ (i : Nat) (o : T), os[i]? = some o → W.cell? ⟨sb, so + i, none⟩ = some o.ptr
  ins : ∀ o ∈ os, In W o
theorem MEnv.below {W W' : World} {Of Cn : Nat} {os : List T} (h : MEnv W Of Cn os) (hb : Below W.heap.size W W') : MEnv W' Of Cn os := by
  obtain ⟨sb, so, cap, h1, h2⟩ := h.ex
  exact ⟨cell_stays h.f hb, ⟨sb, so, cap, cell_stays h1 hb, fun i o ho => cell_stays (h2 i o ho) hb⟩, fun o ho => In.below hb (h.ins o ho)⟩
set_option maxHeartbeats 8000000 in
set_option maxRecDepth 100000 in
theorem made55_any (Of Cn : Nat) (os : List T) (hos : os.length ≤ 1000) : ∀ (t : T) (w : World), In w t → t.n ≤ 100000 → MEnv w Of Cn os → Calls Tryz.prog 248 #[t.ptr, .pointer (some ⟨Of, 0, none⟩), .pointer (some ⟨Cn, 0, none⟩)] w fun e w' => e = .returned (.int .i64 (madeIn os t : Nat)) ∧ Below w.heap.size w w'
  | .nil, w, _, _, _ => by
    simp only [T.ptr, madeIn]
    go_enter Tryz.func248, Tryz.ntmps248
    go_wp2
    go_ret
    exact ⟨rfl, Below.refl _ _⟩
  | .node p k v l r, w, it, hn, he => by
    have hnl : l.n + r.n + 1 = (T.node p k v l r).n := by simp [T.n]
    obtain ⟨pl, hpl⟩ := l.ptr_shape
    obtain ⟨pr, hpr⟩ := r.ptr_shape
    have ls : ∀ W, Below w.heap.size w W → Calls Tryz.prog 194 #[.pointer (some ⟨p, 0, none⟩)] W fun e w' => e = .returned (.pointer pl) ∧ Below W.heap.size W w' := fun W hW => by
      have := left_any (.node p k v l r) W (In.below hW it)
      rw [show (T.node p k v l r).left.ptr = .pointer pl from hpl] at this
      exact this.mono fun e w' ⟨h1, h2⟩ => ⟨h1, by rw [h2]; exact Below.refl _ _⟩
    have rs : ∀ W, Below w.heap.size w W → Calls Tryz.prog 191 #[.pointer (some ⟨p, 0, none⟩)] W fun e w' => e = .returned (.pointer pr) ∧ Below W.heap.size W w' := fun W hW => by
      have := right_any (.node p k v l r) W (In.below hW it)
      rw [show (T.node p k v l r).right.ptr = .pointer pr from hpr] at this
      exact this.mono fun e w' ⟨h1, h2⟩ => ⟨h1, by rw [h2]; exact Below.refl _ _⟩
    have HL : Hid (∀ W, Below w.heap.size w W → Calls Tryz.prog 248 #[.pointer pl, .pointer (some ⟨Of, 0, none⟩), .pointer (some ⟨Cn, 0, none⟩)] W fun e w' => e = .returned (.int .i64 (madeIn os l : Nat)) ∧ Below W.heap.size W w') := hide (fun W hW => by
      have := made55_any Of Cn os hos l W (In.below hW it.2.1) (by omega) (he.below hW)
      rw [hpl] at this
      exact this)
    have HR : Hid (∀ W, Below w.heap.size w W → Calls Tryz.prog 248 #[.pointer pr, .pointer (some ⟨Of, 0, none⟩), .pointer (some ⟨Cn, 0, none⟩)] W fun e w' => e = .returned (.int .i64 (madeIn os r : Nat)) ∧ Below W.heap.size W w') := hide (fun W hW => by
      have := made55_any Of Cn os hos r W (In.below hW it.2.2) (by omega) (he.below hW)
      rw [hpr] at this
      exact this)
    have st : ∀ (o : T) (po : Option Addr) (W : World), Below w.heap.size w W → o ∈ os → o.ptr = .pointer po → Calls Tryz.prog 249 #[.pointer (some ⟨p, 0, none⟩), .agg #[.pointer po]] W fun e w' => e = .returned (.bool (decide (o.find k = .node p k v l r))) ∧ Below W.heap.size W w' := fun o po W hW ho hpo => by
      have := stands_any (.node p k v l r) o W (In.below hW it) (In.below hW (he.ins o ho))
      rw [mv_ptr hpo] at this
      exact this
    obtain ⟨sb, so, cap, cs, ce⟩ := he.ex
    have cf := he.f
    have hml := madeIn_le os l
    have hmr := madeIn_le os r
    have HV := hide (show madeIn os (.node p k v l r) = if os.any (fun o => decide (o.find k = .node p k v l r)) then 0 else madeIn os l + 1 + madeIn os r from rfl)
    obtain ⟨L, hLe⟩ : ∃ L, L = os.length := ⟨_, rfl⟩
    rw [← hLe] at cs hos
    have HLE := hide hLe
    have HCE := hide ce
    have HST := hide st
    simp only [T.ptr]
    clear it he ce st hLe hpl hpr
    generalize madeIn os l = ML at *
    generalize madeIn os r = MR at *
    go_enter Tryz.func248, Tryz.ntmps248
    go_wp2
    go_loopw [11] (fun v11 wr => ∃ i : Nat, i ≤ L ∧ v11 = .int .i64 i ∧ Hid ((os.take i).any (fun o => decide (o.find k = .node p k v l r)) = false ∧ Below w.heap.size w wr)) (fun v11 _ => L - (intOf v11).toNat)
    case atStart => exact ⟨0, by omega, rfl, hide ⟨rfl, Below.refl _ _⟩⟩
    case round =>
      obtain ⟨i, hi, rfl, HH⟩ := hrel
      by_cases hiL : i < L
      · have y1 : (i : Int) < (L : Int) := by omega
        have hlt : i < os.length := by rw [← HLE.out]; exact hiL
        obtain ⟨oo, hoo⟩ : ∃ oo, os[i]? = some oo := ⟨os[i], List.getElem?_eq_getElem hlt⟩
        obtain ⟨po, hpo⟩ := oo.ptr_shape
        have ce := cell_stays (HCE.out i oo hoo) HH.out.2
        rw [hpo] at ce
        have bal : Below wr.heap.size wr (wr.alloc (.cells #[.pointer po] 27)) := (Below.refl _ wr).alloc (Nat.le_refl _) _
        have bw := HH.out.2.trans (bal.mono HH.out.2.size)
        have cst := HST.out oo po _ bw (List.mem_of_getElem? hoo) hpo
        have htk : os.take (i + 1) = os.take i ++ [oo] := by rw [List.take_add_one, hoo]; rfl
        have HX := hide (And.intro bw htk)
        cases hD : decide (oo.find k = .node p k v l r) with
        | true =>
          rw [hD] at cst
          have HD := hide (And.intro hD hoo)
          clear hD htk bw hoo hpo bal
          go_wp2_with (go_at_call 249; refine cst.mono ?_; rintro e w1 ⟨rfl, b1⟩; dsimp only)
          go_ret
          refine ⟨?_, HX.out.1.trans (b1.mono HX.out.1.size)⟩
          have : os.any (fun o => decide (o.find k = .node p k v l r)) = true := List.any_eq_true.2 ⟨oo, List.mem_of_getElem? HD.out.2, HD.out.1⟩
          rw [HV.out, this]
          rfl
        | false =>
          rw [hD] at cst
          have HD := hide (And.intro hD hoo)
          clear hD htk bw hoo hpo bal
          go_wp2_with (go_at_call 249; refine cst.mono ?_; rintro e w1 ⟨rfl, b1⟩; replace b1 := hide b1; dsimp only)
          go_roundw
          case rel => exact ⟨i + 1, by omega, by go_num, hide ⟨by rw [HX.out.2, List.any_append, HH.out.1]; simpa using HD.out.1, HX.out.1.trans (b1.out.mono HX.out.1.size)⟩⟩
          case measure => simp [intOf]; omega
      · have ei : i = L := by omega
        subst ei
        have y1 : decide ((i : Int) < (i : Int)) = false := by simp
        have wA : IntKind.i64.wrap ((ML : Int) + 1) = (ML : Int) + 1 := by rw [IntKind.wrap_i64]; omega
        have wB : IntKind.i64.wrap ((ML : Int) + 1 + (MR : Int)) = (ML : Int) + 1 + (MR : Int) := by rw [IntKind.wrap_i64]; omega
        have q0 : wr.cell? ⟨Cn, 0, none⟩ = some (.func (.func 248) #[] #[.pointer (some ⟨Of, 0, none⟩), .pointer (some ⟨Cn, 0, none⟩)]) ∧ Hid (Below w.heap.size w wr) := ⟨cell_stays cf HH.out.2, hide HH.out.2⟩
        have hany : os.any (fun o => decide (o.find k = .node p k v l r)) = false := by have := HH.out.1; rw [HLE.out, List.take_length] at this; exact this
        have HA := hide hany
        clear hany
        go_upto_region 9 with (fail)
        have qd : wr.drew.cell? ⟨Cn, 0, none⟩ = some (.func (.func 248) #[] #[.pointer (some ⟨Of, 0, none⟩), .pointer (some ⟨Cn, 0, none⟩)]) ∧ Hid (Below w.heap.size w wr.drew) := ⟨q0.1, hide (q0.2.out.trans ((drew_below wr).mono q0.2.out.size))⟩
        refine wp_region_held_drew (S := (fun w' => w'.cell? ⟨Cn, 0, none⟩ = some (.func (.func 248) #[] #[.pointer (some ⟨Of, 0, none⟩), .pointer (some ⟨Cn, 0, none⟩)]) ∧ Hid (Below w.heap.size w w'))) (by kernel_rfl) qd (fun hHeld => ?_)
        try dsimp only at hHeld
        refine take_op (i := 0) (d := 19) (OP := Op.load 167 (Operand.tmp 2)) (T := 167) (v := ?v1) rfl rfl rfl rfl (by kernel_rfl) (by kernel_rfl) (by kernel_rfl) (fun _ _ _ h => h) (by rfl) ?h1 hHeld ?r1
        case h1 => (intro w' hSw; (try dsimp only at hSw); go_simp <;> with_reducible rfl)
        try simp only [Act.put, sI, sZ, sS]
        refine take_op (i := 1) (d := 20) (OP := Op.move (Operand.tmp 0)) (T := 25) (v := ?v2) rfl rfl rfl rfl (by kernel_rfl) (by kernel_rfl) (by kernel_rfl) (fun _ _ _ h => h) (by rfl) ?h2 hHeld ?r2
        case h2 => (intro w' hSw; (try dsimp only at hSw); go_simp <;> with_reducible rfl)
        try simp only [Act.put, sI, sZ, sS]
        refine take_op (i := 5) (d := 24) (OP := Op.load 167 (Operand.tmp 2)) (T := 167) (v := ?v3) rfl rfl rfl rfl (by kernel_rfl) (by kernel_rfl) (by kernel_rfl) (fun _ _ _ h => h) (by rfl) ?h3 hHeld ?r3
        case h3 => (intro w' hSw; (try dsimp only at hSw); go_simp <;> with_reducible rfl)
        try simp only [Act.put, sI, sZ, sS]
        refine take_op (i := 6) (d := 25) (OP := Op.move (Operand.tmp 0)) (T := 25) (v := ?v4) rfl rfl rfl rfl (by kernel_rfl) (by kernel_rfl) (by kernel_rfl) (fun _ _ _ h => h) (by rfl) ?h4 hHeld ?r4
        case h4 => (intro w' hSw; (try dsimp only at hSw); go_simp <;> with_reducible rfl)
        try simp only [Act.put, sI, sZ, sS]
        refine call_op (i := 2) (d := 21) (OP := Op.call { callee := Callee.value (Operand.func 194), args := #[Operand.tmp 20], argTypes := #[25] }) (T := 25) (f := 194) (args := #[.pointer (some ⟨p, 0, none⟩)]) rfl rfl rfl rfl (by kernel_rfl) (by rfl) (by go_simp) ?_
        refine (ls _ qd.2.out).mono ?_
        rintro e w1 ⟨rfl, bw1⟩
        have qw1 : w1.cell? ⟨Cn, 0, none⟩ = some (.func (.func 248) #[] #[.pointer (some ⟨Of, 0, none⟩), .pointer (some ⟨Cn, 0, none⟩)]) ∧ Hid (Below w.heap.size w w1) := ⟨cell_stays qd.1 bw1, hide (qd.2.out.trans (bw1.mono qd.2.out.size))⟩
        refine ⟨_, rfl, qw1, ?_⟩
        replace hHeld := qw1
        try simp only [Act.put, sI, sZ, sS]
        refine call_op (i := 3) (d := 22) (OP := Op.call { callee := Callee.value (Operand.tmp 19), args := #[Operand.tmp 21], argTypes := #[25] }) (T := 3) (f := 248) (args := #[.pointer pl, .pointer (some ⟨Of, 0, none⟩), .pointer (some ⟨Cn, 0, none⟩)]) rfl rfl rfl rfl (by kernel_rfl) (by rfl) (by go_simp) ?_
        refine (HL.out _ qw1.2.out).mono ?_
        rintro e w2 ⟨rfl, bw2⟩
        have qw2 : w2.cell? ⟨Cn, 0, none⟩ = some (.func (.func 248) #[] #[.pointer (some ⟨Of, 0, none⟩), .pointer (some ⟨Cn, 0, none⟩)]) ∧ Hid (Below w.heap.size w w2) := ⟨cell_stays qw1.1 bw2, hide (qw1.2.out.trans (bw2.mono qw1.2.out.size))⟩
        refine ⟨_, rfl, qw2, ?_⟩
        replace hHeld := qw2
        try simp only [Act.put, sI, sZ, sS]
        refine take_op (i := 4) (d := 23) (OP := Op.binOp BinOp.add 3 (Operand.tmp 22) (Operand.const (Value.int IntKind.i64 1)) 3) (T := 3) (v := ?v5) rfl rfl rfl rfl (by kernel_rfl) (by kernel_rfl) (by kernel_rfl) (fun _ _ _ h => h) (by rfl) ?h5 hHeld ?r5
        case h5 => (intro w' hSw; (try dsimp only at hSw); go_simp <;> with_reducible rfl)
        try simp only [Act.put, sI, sZ, sS]
        refine call_op (i := 7) (d := 26) (OP := Op.call { callee := Callee.value (Operand.func 191), args := #[Operand.tmp 25], argTypes := #[25] }) (T := 25) (f := 191) (args := #[.pointer (some ⟨p, 0, none⟩)]) rfl rfl rfl rfl (by kernel_rfl) (by rfl) (by go_simp) ?_
        refine (rs _ qw2.2.out).mono ?_
        rintro e w3 ⟨rfl, bw3⟩
        have qw3 : w3.cell? ⟨Cn, 0, none⟩ = some (.func (.func 248) #[] #[.pointer (some ⟨Of, 0, none⟩), .pointer (some ⟨Cn, 0, none⟩)]) ∧ Hid (Below w.heap.size w w3) := ⟨cell_stays qw2.1 bw3, hide (qw2.2.out.trans (bw3.mono qw2.2.out.size))⟩
        refine ⟨_, rfl, qw3, ?_⟩
        replace hHeld := qw3
        try simp only [Act.put, sI, sZ, sS]
        refine call_op (i := 8) (d := 27) (OP := Op.call { callee := Callee.value (Operand.tmp 24), args := #[Operand.tmp 26], argTypes := #[25] }) (T := 3) (f := 248) (args := #[.pointer pr, .pointer (some ⟨Of, 0, none⟩), .pointer (some ⟨Cn, 0, none⟩)]) rfl rfl rfl rfl (by kernel_rfl) (by rfl) (by go_simp) ?_
        refine (HR.out _ qw3.2.out).mono ?_
        rintro e w4 ⟨rfl, bw4⟩
        have qw4 : w4.cell? ⟨Cn, 0, none⟩ = some (.func (.func 248) #[] #[.pointer (some ⟨Of, 0, none⟩), .pointer (some ⟨Cn, 0, none⟩)]) ∧ Hid (Below w.heap.size w w4) := ⟨cell_stays qw3.1 bw4, hide (qw3.2.out.trans (bw4.mono qw3.2.out.size))⟩
        refine ⟨_, rfl, qw4, ?_⟩
        replace hHeld := qw4
        try simp only [Act.put, sI, sZ, sS]
        refine take_op (i := 9) (d := 28) (OP := Op.binOp BinOp.add 3 (Operand.tmp 23) (Operand.tmp 27) 3) (T := 3) (v := ?v6) rfl rfl rfl rfl (by kernel_rfl) (by kernel_rfl) (by kernel_rfl) (fun _ _ _ h => h) (by rfl) ?h6 hHeld ?r6
        case h6 => (intro w' hSw; (try dsimp only at hSw); go_simp <;> with_reducible rfl)
        try simp only [Act.put, sI, sZ, sS]
        refine take_op (i := 10) (d := 4) (OP := Op.assign (Operand.tmp 28)) (T := 3) (v := ?v7) rfl rfl rfl rfl (by kernel_rfl) (by kernel_rfl) (by kernel_rfl) (fun _ _ _ h => h) (by rfl) ?h7 hHeld ?r7
        case h7 => (intro w' hSw; (try dsimp only at hSw); go_simp <;> with_reducible rfl)
        try simp only [Act.put, sI, sZ, sS]
        refine wpAnyH_done (by kernel_rfl) ?_ _
        go_wp2
        go_ret
        refine ⟨?_, qw4.2.out⟩
        rw [HV.out, HA.out]
        simp
end Go.Proofs.YtkkpdgfllnbigaaGreat.Pm
namespace Go.Proofs.YtkkpdgfllnbigaaGreat.Pm
open Go.RowKit Go.Shelf
set_option linter.unusedSimpArgs false

set_option maxHeartbeats 4000000 in
theorem made36_any (os : List T) (t : T) (sb so cap : Nat) (w : World) (hos : os.length ≤ 1000) (it : In w t) (hn : t.n ≤ 100000) (ios : ∀ o ∈ os, In w o) (hsl : ∀ (i : Nat) (o : T), os[i]? = some o → w.cell? ⟨sb, so + i, none⟩ = some o.ptr) : Calls Tryz.prog 228 #[mv t, .slice (some ⟨sb, so, none⟩) os.length cap] w fun e w' => e = .returned (.int .i64 (madeIn os t : Nat)) ∧ Below w.heap.size w w' := by
  obtain ⟨x, hx⟩ := t.ptr_shape
  rw [mv_ptr hx]
  obtain ⟨m0, m1, m2, hb⟩ := new3 w (.cells #[.pointer x] 27) (.cells #[.slice (some ⟨sb, so, none⟩) os.length cap] 232) (.cells #[.func (.func 248) #[] #[.pointer (some ⟨w.heap.size + 1, 0, none⟩), .pointer (some ⟨w.heap.size + 1 + 1, 0, none⟩)]] 167)
  obtain ⟨w0, hw0⟩ : ∃ w0, w0 = (((w.alloc (.cells #[.pointer x] 27)).alloc (.cells #[.slice (some ⟨sb, so, none⟩) os.length cap] 232)).alloc (.cells #[.func (.func 248) #[] #[.pointer (some ⟨w.heap.size + 1, 0, none⟩), .pointer (some ⟨w.heap.size + 1 + 1, 0, none⟩)]] 167)) := ⟨_, rfl⟩
  rw [← hw0] at m0 m1 m2 hb
  have env : MEnv w0 (w.heap.size + 1) (w.heap.size + 1 + 1) os := ⟨(cell_of_row _ _ 0 _ 167 (0, 0) m2).trans rfl, ⟨sb, so, cap, (cell_of_row _ _ 0 _ 232 (0, 0) m1).trans rfl, fun i o ho => cell_stays (hsl i o ho) hb⟩, fun o ho => In.below hb (ios o ho)⟩
  have HM : Hid (∀ W, Below w0.heap.size w0 W → Calls Tryz.prog 248 #[.pointer x, .pointer (some ⟨w.heap.size + 1, 0, none⟩), .pointer (some ⟨w.heap.size + 1 + 1, 0, none⟩)] W fun e w' => e = .returned (.int .i64 (madeIn os t : Nat)) ∧ Below W.heap.size W w') := hide (fun W hW => by
    have := made55_any (w.heap.size + 1) (w.heap.size + 1 + 1) os hos t W (In.below hW (In.below hb it)) hn (env.below hW)
    rw [hx] at this
    exact this)
  have ro : ∀ W, Calls Tryz.prog 245 #[.agg #[.pointer x]] W fun e w' => e = .returned (.pointer x) ∧ Below W.heap.size W w' := fun W => by
    have := mRoot_any t W
    rw [mv_ptr hx, hx] at this
    exact this
  have q0 : w0.cell? ⟨w.heap.size + 1 + 1, 0, none⟩ = some (.func (.func 248) #[] #[.pointer (some ⟨w.heap.size + 1, 0, none⟩), .pointer (some ⟨w.heap.size + 1 + 1, 0, none⟩)]) ∧ w0.cell? ⟨w.heap.size, 0, none⟩ = some (.pointer x) ∧ Hid (Below w0.heap.size w0 w0) := ⟨env.f, (cell_of_row _ _ 0 _ 27 (0, 0) m0).trans rfl, hide (Below.refl _ _)⟩
  have HB := hide hb
  generalize madeIn os t = MM at *
  clear m0 m1 m2 hb env it ios hsl hx
  have hstf : ∀ a f x y m W, (store a (.func f x y) m).run Tryz.prog W = stored Tryz.prog W a (.func f x y) m := fun a f x y m W => run_store Tryz.prog W a _ m rfl
  go_enter Tryz.func228, Tryz.ntmps228
  go_upto_region 3 with (fail)
  rw [← hw0]
  clear hw0 hstf
  have qd : w0.drew.cell? ⟨w.heap.size + 1 + 1, 0, none⟩ = some (.func (.func 248) #[] #[.pointer (some ⟨w.heap.size + 1, 0, none⟩), .pointer (some ⟨w.heap.size + 1 + 1, 0, none⟩)]) ∧ w0.drew.cell? ⟨w.heap.size, 0, none⟩ = some (.pointer x) ∧ Hid (Below w0.heap.size w0 w0.drew) := ⟨q0.1, q0.2.1, hide (q0.2.2.out.trans ((drew_below w0).mono q0.2.2.out.size))⟩
  refine wp_region_held_drew (S := (fun w' => w'.cell? ⟨w.heap.size + 1 + 1, 0, none⟩ = some (.func (.func 248) #[] #[.pointer (some ⟨w.heap.size + 1, 0, none⟩), .pointer (some ⟨w.heap.size + 1 + 1, 0, none⟩)]) ∧ w'.cell? ⟨w.heap.size, 0, none⟩ = some (.pointer x) ∧ Hid (Below w0.heap.size w0 w'))) (by kernel_rfl) qd (fun hHeld => ?_)
  try dsimp only at hHeld
  refine take_op (i := 0) (d := 7) (OP := Op.load 167 (Operand.tmp 5)) (T := 167) (v := ?v1) rfl rfl rfl rfl (by kernel_rfl) (by kernel_rfl) (by kernel_rfl) (fun _ _ _ h => h) (by rfl) ?h1 hHeld ?r1
  case h1 => (intro w' hSw; (try dsimp only at hSw); go_simp <;> with_reducible rfl)
  try simp only [Act.put, sI, sZ, sS]
  refine take_op (i := 1) (d := 8) (OP := Op.load 27 (Operand.tmp 2)) (T := 27) (v := ?v2) rfl rfl rfl rfl (by kernel_rfl) (by kernel_rfl) (by kernel_rfl) (fun _ _ _ h => h) (by rfl) ?h2 hHeld ?r2
  case h2 => (intro w' hSw; (try dsimp only at hSw); go_simp <;> with_reducible rfl)
  try simp only [Act.put, sI, sZ, sS]
  refine call_op (i := 2) (d := 9) (OP := Op.call { callee := Callee.value (Operand.func 245), args := #[Operand.tmp 8], argTypes := #[27] }) (T := 25) (f := 245) (args := #[.agg #[.pointer x]]) rfl rfl rfl rfl (by kernel_rfl) (by rfl) (by go_simp) ?_
  refine (ro _).mono ?_
  rintro e w1 ⟨rfl, bw1⟩
  have qw1 : w1.cell? ⟨w.heap.size + 1 + 1, 0, none⟩ = some (.func (.func 248) #[] #[.pointer (some ⟨w.heap.size + 1, 0, none⟩), .pointer (some ⟨w.heap.size + 1 + 1, 0, none⟩)]) ∧ w1.cell? ⟨w.heap.size, 0, none⟩ = some (.pointer x) ∧ Hid (Below w0.heap.size w0 w1) := ⟨cell_stays qd.1 bw1, cell_stays qd.2.1 bw1, hide (qd.2.2.out.trans (bw1.mono qd.2.2.out.size))⟩
  refine ⟨_, rfl, qw1, ?_⟩
  replace hHeld := qw1
  try simp only [Act.put, sI, sZ, sS]
  refine call_op (i := 3) (d := 10) (OP := Op.call { callee := Callee.value (Operand.tmp 7), args := #[Operand.tmp 9], argTypes := #[25] }) (T := 3) (f := 248) (args := #[.pointer x, .pointer (some ⟨w.heap.size + 1, 0, none⟩), .pointer (some ⟨w.heap.size + 1 + 1, 0, none⟩)]) rfl rfl rfl rfl (by kernel_rfl) (by rfl) (by go_simp) ?_
  refine (HM.out _ qw1.2.2.out).mono ?_
  rintro e w2 ⟨rfl, bw2⟩
  have qw2 : w2.cell? ⟨w.heap.size + 1 + 1, 0, none⟩ = some (.func (.func 248) #[] #[.pointer (some ⟨w.heap.size + 1, 0, none⟩), .pointer (some ⟨w.heap.size + 1 + 1, 0, none⟩)]) ∧ w2.cell? ⟨w.heap.size, 0, none⟩ = some (.pointer x) ∧ Hid (Below w0.heap.size w0 w2) := ⟨cell_stays qw1.1 bw2, cell_stays qw1.2.1 bw2, hide (qw1.2.2.out.trans (bw2.mono qw1.2.2.out.size))⟩
  refine ⟨_, rfl, qw2, ?_⟩
  replace hHeld := qw2
  try simp only [Act.put, sI, sZ, sS]
  refine take_op (i := 4) (d := 4) (OP := Op.assign (Operand.tmp 10)) (T := 3) (v := ?v3) rfl rfl rfl rfl (by kernel_rfl) (by kernel_rfl) (by kernel_rfl) (fun _ _ _ h => h) (by rfl) ?h3 hHeld ?r3
  case h3 => (intro w' hSw; (try dsimp only at hSw); go_simp <;> with_reducible rfl)
  try simp only [Act.put, sI, sZ, sS]
  refine wpAnyH_done (by kernel_rfl) ?_ _
  go_wp2
  go_ret
  exact ⟨rfl, HB.out.trans (qw2.2.2.out.mono HB.out.size)⟩
end Go.Proofs.YtkkpdgfllnbigaaGreat.Pm
namespace Go.Proofs.YtkkpdgfllnbigaaGreat.Pm
open Go.RowKit Go.Shelf
set_option linter.unusedSimpArgs false

theorem ret_rr_t {P : Program} {fn : Func} {p q s : Tmp} {ty ty' : TypeId} (b c : Nat) (cs ds : List Value) {R : Ending → World → Prop} {a : Act} {w : World} (h : fn.results = #[.cell p ty, .cell q ty', .tmp s]) (hp : a.tmps.getD p undef = .pointer (some ⟨b, 0, none⟩)) (hq : a.tmps.getD q undef = .pointer (some ⟨c, 0, none⟩)) {v : Value} (hs : a.tmps.getD s undef = v)
    {d d' : TypeDesc} (hu : P.underlying ty = some d) (hd : d.isRow = true) (hu' : P.underlying ty' = some d') (hd' : d'.isRow = true) (hi : (P.info? ty).map (·.size) = some cs.length) (hi2 : (P.info? ty').map (·.size) = some ds.length) {t t2 : TypeId} {fr fr2 : Nat × Nat} (hc : w.heap[b]? = some (.cells cs.toArray t fr)) (hc2 : w.heap[c]? = some (.cells ds.toArray t2 fr2)) (hdef : a.defers = [])
    (hR : R (.returned (.tuple #[.agg cs.toArray, .agg ds.toArray, v])) w) : bodyPost P fn R .ret a w := by
  refine bodyPost_ret (v := .tuple #[.agg cs.toArray, .agg ds.toArray, v]) ?_ hdef hR
  have h1 := run_loadVar_mid (P := P) w b 0 ty cs _ (fun j v hv => by rw [cell_of_row w b (0 + j) cs.toArray t fr hc, Nat.zero_add]; simpa using hv) hu hd hi
  have h2 := run_loadVar_mid (P := P) w c 0 ty' ds _ (fun j v hv => by rw [cell_of_row w c (0 + j) ds.toArray t2 fr2 hc2, Nat.zero_add]; simpa using hv) hu' hd' hi2
  have hp' : a.tmps[p]?.getD undef = .pointer (some ⟨b, 0, none⟩) := by simpa using hp
  have hq' : a.tmps[q]?.getD undef = .pointer (some ⟨c, 0, none⟩) := by simpa using hq
  have hs' : a.tmps[s]?.getD undef = v := by simpa using hs
  simp [results, h, hp', hq', hs', asAddr, Sem.run_bind, Result.andThen, h1, h2]
theorem Tryz.info136 : (Tryz.prog.info? 136).map (·.size) = some 3 := by kernel_rfl
theorem set3 {w : World} {B : Nat} {x0 x1 x2 : Value} {ty : TypeId} (a b c : Value) (h : w.heap[B]? = some (.cells #[x0, x1, x2] ty (0, 0))) : (((w.setCell ⟨B, 0, none⟩ a).setCell ⟨B, 1, none⟩ b).setCell ⟨B, 2, none⟩ c).heap[B]? = some (.cells #[a, b, c] ty (0, 0)) ∧ Only (fun j => j = B) w (((w.setCell ⟨B, 0, none⟩ a).setCell ⟨B, 1, none⟩ b).setCell ⟨B, 2, none⟩ c) := by
  obtain ⟨h1, o1⟩ := set_one (i := 0) a h
  obtain ⟨h2, o2⟩ := set_one (i := 1) b h1
  obtain ⟨h3, o3⟩ := set_one (i := 2) c h2
  exact ⟨by simpa using h3, (o1.trans o2 (fun _ _ e => e)).trans o3 (fun _ _ e => e)⟩
theorem new8 (w : World) (o0 o1 o2 o3 o4 o5 o6 o7 : Obj) : ∃ w0, w0 = ((((((((w.alloc o0).alloc o1).alloc o2).alloc o3).alloc o4).alloc o5).alloc o6).alloc o7) ∧ w0.heap[w.heap.size]? = some o0 ∧ w0.heap[w.heap.size + 1]? = some o1 ∧ w0.heap[w.heap.size + 1 + 1]? = some o2 ∧ w0.heap[w.heap.size + 1 + 1 + 1]? = some o3 ∧ w0.heap[w.heap.size + 1 + 1 + 1 + 1]? = some o4 ∧ w0.heap[w.heap.size + 1 + 1 + 1 + 1 + 1]? = some o5 ∧ w0.heap[w.heap.size + 1 + 1 + 1 + 1 + 1 + 1]? = some o6 ∧ w0.heap[w.heap.size + 1 + 1 + 1 + 1 + 1 + 1 + 1]? = some o7 ∧ Below w.heap.size w w0 := by
  refine ⟨_, rfl, ?_⟩
  obtain ⟨m0, m1, m2, m3, hb⟩ := new4 w o0 o1 o2 o3
  obtain ⟨n0, n1, n2, n3, hc⟩ := new4 ((((w.alloc o0).alloc o1).alloc o2).alloc o3) o4 o5 o6 o7
  have hs : ((((w.alloc o0).alloc o1).alloc o2).alloc o3).heap.size = w.heap.size + 1 + 1 + 1 + 1 := by simp
  rw [hs] at n0 n1 n2 n3
  exact ⟨(hc.block _ (gI m0).1).trans m0, (hc.block _ (gI m1).1).trans m1, (hc.block _ (gI m2).1).trans m2, (hc.block _ (gI m3).1).trans m3, n0, n1, n2, n3, hb.trans (hc.mono hb.size)⟩
end Go.Proofs.YtkkpdgfllnbigaaGreat.Pm
