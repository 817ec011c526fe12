/-
  walk: WHAT THE WALK'S CLOSURE HAS, AND WHAT IT LEAVES ALONE.
-/
import Derived.Test.YtckkoigghkgfdaaUnread
import Derived.Test.YtckkoigghkgfdaaOrders
namespace Go.Proofs.Ytckkoigghkgfdaa
open Go.RowKit Go.Shelf
set_option linter.unusedSimpArgs false

/-- The types of the walk's own blocks. -/
def keepTy (e : TypeId) : Prop := e = 29 ∨ e = 70 ∨ e = 83 ∨ e = 67 ∨ e = 42
/-- Old blocks stand, and those of the walk's own types. -/
structure Goes (B Tk : Nat) (W W' : World) : Prop where
  low : Below B W W'
  own : ∀ (j : Nat) (cur : Array Value) (e : TypeId) (fr : Nat × Nat), W.heap[j]? = some (Obj.cells cur e fr) → keepTy e → W'.heap[j]? = some (Obj.cells cur e fr)
  cnt : ∀ (j : Nat) (cur : Array Value) (fr : Nat × Nat), W.heap[j]? = some (Obj.cells cur 33 fr) → j ≠ Tk → W'.heap[j]? = some (Obj.cells cur 33 fr)
theorem Goes.refl (B Tk : Nat) (W : World) : Goes B Tk W W := ⟨Below.refl _ _, fun _ _ _ _ h _ => h, fun _ _ _ h _ => h⟩
theorem Goes.trans {B Tk : Nat} {a b c : World} (h : Goes B Tk a b) (k : Goes B Tk b c) : Goes B Tk a c := ⟨h.low.trans k.low, fun j cur e fr hj he => k.own j cur e fr (h.own j cur e fr hj he) he, fun j cur fr hj he => k.cnt j cur fr (h.cnt j cur fr hj he) he⟩
theorem Goes.of {B Tk : Nat} {W W' : World} (h : Below W.heap.size W W') (hB : B ≤ W.heap.size) : Goes B Tk W W' := ⟨h.mono hB, fun _ _ _ _ hj _ => (h.block _ (Array.getElem?_eq_some_iff.1 hj).1).trans hj, fun _ _ _ hj _ => (h.block _ (Array.getElem?_eq_some_iff.1 hj).1).trans hj⟩
theorem In.goes {B Tk : Nat} {W W' : World} (h : Goes B Tk W W') : ∀ {t : T}, In W t → In W' t
  | .nil, _ => trivial
  | .node _ _ _ _ _, ⟨h1, h2, h3⟩ => ⟨h.own _ _ _ _ h1 (.inr (.inr (.inl rfl))), In.goes h h2, In.goes h h3⟩
/-- A block that is no block of the walk's own types is written. -/
theorem Goes.set {B Tk i : Nat} {W : World} {cs : Array Value} {ty : TypeId} (v : Value) (h : W.heap[Tk]? = some (.cells cs ty (0, 0))) (hB : B ≤ Tk) (hty : ¬ keepTy ty) : Goes B Tk W (W.setCell ⟨Tk, i, none⟩ v) := by
  obtain ⟨_, o⟩ := set_one (i := i) v h
  refine ⟨(Below.refl _ W).setCell (p := ⟨Tk, i, none⟩) hB _, fun j cur e fr hj he => ?_, fun j cur fr hj hne => (o.block j (Array.getElem?_eq_some_iff.1 hj).1 hne).trans hj⟩
  refine (o.block j (Array.getElem?_eq_some_iff.1 hj).1 (fun d => ?_)).trans hj
  subst d
  rw [h] at hj
  simp only [Option.some.injEq, Obj.cells.injEq] at hj
  exact hty (hj.2.1 ▸ he)
/-- A block that came later is written. -/
theorem Goes.later {B Tk C : Nat} {w W W' : World} (h : Goes B Tk w W) (o : Only (fun j => j = C) W W') (hC : w.heap.size ≤ C) (hB : B ≤ C) (hBw : B ≤ W.heap.size) : Goes B Tk w W' :=
  ⟨Below.only h.low o hBw (fun j e => by omega), fun j cur e fr hj he => (o.block j (Nat.lt_of_lt_of_le (Array.getElem?_eq_some_iff.1 hj).1 h.low.size) (fun d => by have := (Array.getElem?_eq_some_iff.1 hj).1; omega)).trans (h.own j cur e fr hj he), fun j cur fr hj he => (o.block j (Nat.lt_of_lt_of_le (Array.getElem?_eq_some_iff.1 hj).1 h.low.size) (fun d => by have := (Array.getElem?_eq_some_iff.1 hj).1; omega)).trans (h.cnt j cur fr hj he)⟩
/-- A rule that may be asked. -/
structure RuleOk (A : ByteArray → Int × Bool → Int × Bool → Int × Bool → Prop) (B Tk : Nat) (g : Nat) (caps : Array Value) (R : ByteArray → Int × Bool → Int × Bool → Int × Bool → Int × Bool) (J : List ByteArray → World → Prop) : Prop where
  enter : ∀ (args : Array Value) (W : World), (callFunc g args).run Try.prog W = .ok (.enter g args) W
  call : ∀ (W : World) (ks : List ByteArray) (k : ByteArray) (p q r : Int × Bool), B ≤ W.heap.size → A k p q r → ks.length ≤ 100000 → J ks W → Calls Try.prog g (#[.string k, pv p, pv q, pv r] ++ caps) W fun e W' => (∃ v, e = .returned (.tuple #[.int .i64 v, .bool (R k p q r).2]) ∧ ((R k p q r).2 = true → v = (R k p q r).1)) ∧ J (ks ++ [k]) W' ∧ Goes B Tk W W' ∧ ∀ (cur : Array Value) (fr : Nat × Nat), W.heap[Tk]? = some (.cells cur 33 fr) → W'.heap[Tk]? = some (.cells cur 33 fr)
  stay : ∀ (ks : List ByteArray) (W W' : World), J ks W → (∀ (j : Nat) (cur : Array Value) (e : TypeId) (fr : Nat × Nat), W.heap[j]? = some (Obj.cells cur e fr) → (j < B ∨ (e ≠ 29 ∧ e ≠ 70 ∧ (j ≠ Tk ∨ e ≠ 33))) → W'.heap[j]? = some (Obj.cells cur e fr)) → J ks W'
/-- What the closure has. -/
structure REnv (W : World) (Tk Rn Ru : Nat) (fv : Value) (x y z : Int) : Prop where
  run : W.heap[Rn]? = some (.cells #[.func (.func 31) #[] #[.pointer (some ⟨Tk, 0, none⟩), .pointer (some ⟨Rn, 0, none⟩), .pointer (some ⟨Ru, 0, none⟩)]] 67 (0, 0))
  rule : W.heap[Ru]? = some (.cells #[fv] 42 (0, 0))
  took : W.heap[Tk]? = some (.cells #[.int .i64 x, .int .i64 y, .int .i64 z] 33 (0, 0))
theorem REnv.below {W W' : World} {Tk Rn Ru : Nat} {fv : Value} {x y z : Int} (h : REnv W Tk Rn Ru fv x y z) (hb : Below W.heap.size W W') : REnv W' Tk Rn Ru fv x y z :=
  ⟨(hb.block _ (Array.getElem?_eq_some_iff.1 h.run).1).trans h.run, (hb.block _ (Array.getElem?_eq_some_iff.1 h.rule).1).trans h.rule, (hb.block _ (Array.getElem?_eq_some_iff.1 h.took).1).trans h.took⟩
/-- A box of a map is written. -/
theorem REnv.box {W W' : World} {C Tk Rn Ru : Nat} {fv u : Value} {x y z : Int} (h : REnv W Tk Rn Ru fv x y z) (hC : W.heap[C]? = some (.cells #[u] 29 (0, 0))) (o : Only (fun j => j = C) W W') : REnv W' Tk Rn Ru fv x y z := by
  refine ⟨(o.block _ (Array.getElem?_eq_some_iff.1 h.run).1 (fun e => ?_)).trans h.run, (o.block _ (Array.getElem?_eq_some_iff.1 h.rule).1 (fun e => ?_)).trans h.rule, (o.block _ (Array.getElem?_eq_some_iff.1 h.took).1 (fun e => ?_)).trans h.took⟩
  · have := h.run; rw [e, hC] at this; simp at this
  · have := h.rule; rw [e, hC] at this; simp at this
  · have := h.took; rw [e, hC] at this; simp at this
theorem RuleOk.box {A : ByteArray → Int × Bool → Int × Bool → Int × Bool → Prop} {B Tk g C : Nat} {caps : Array Value} {R : ByteArray → Int × Bool → Int × Bool → Int × Bool → Int × Bool} {J : List ByteArray → World → Prop} (h : RuleOk A B Tk g caps R J) {ks : List ByteArray} {W W' : World} {u : Value} (hj : J ks W) (hC : W.heap[C]? = some (.cells #[u] 29 (0, 0))) (o : Only (fun j => j = C) W W') (hBC : B ≤ C) : J ks W' :=
  h.stay ks W W' hj (fun j cur e fr hjj hor => (o.block _ (Array.getElem?_eq_some_iff.1 hjj).1 (fun d => by
    rcases hor with hlt | ⟨h29, _, _⟩
    · omega
    · rw [d, hC] at hjj; simp only [Option.some.injEq, Obj.cells.injEq] at hjj; exact h29 hjj.2.1.symm)).trans hjj)
theorem RuleOk.set {A : ByteArray → Int × Bool → Int × Bool → Int × Bool → Prop} {B Tk g : Nat} {caps : Array Value} {R : ByteArray → Int × Bool → Int × Bool → Int × Bool → Int × Bool} {J : List ByteArray → World → Prop} (h : RuleOk A B Tk g caps R J) {ks : List ByteArray} {W W' : World} (hj : J ks W) (o : Only (fun j => j = Tk) W W') (hB : B ≤ Tk) {cs : Array Value} {fr : Nat × Nat} (hT : W.heap[Tk]? = some (.cells cs 33 fr)) : J ks W' :=
  h.stay ks W W' hj (fun j cur e fr hjj hor => (o.block _ (Array.getElem?_eq_some_iff.1 hjj).1 (fun d => by
    rcases hor with hlt | ⟨_, _, hne | hne⟩
    · omega
    · exact hne d
    · rw [d, hT] at hjj; simp only [Option.some.injEq, Obj.cells.injEq] at hjj; exact hne hjj.2.1.symm)).trans hjj)
theorem RuleOk.below {A : ByteArray → Int × Bool → Int × Bool → Int × Bool → Prop} {B Tk g : Nat} {caps : Array Value} {R : ByteArray → Int × Bool → Int × Bool → Int × Bool → Int × Bool} {J : List ByteArray → World → Prop} (h : RuleOk A B Tk g caps R J) {ks : List ByteArray} {W W' : World} (hj : J ks W) (hb : Below W.heap.size W W') : J ks W' :=
  h.stay ks W W' hj (fun _ _ _ _ hj _ => (hb.block _ (Array.getElem?_eq_some_iff.1 hj).1).trans hj)
/-- Three maps that may be run together. -/
structure Trio (V : ByteArray → Int × Bool → Prop) (W : World) (o a b : T) : Prop where
  io : In W o
  ia : In W a
  ib : In W b
  so : Srt o.list
  sa : Srt a.list
  sb : Srt b.list
  bo : o.bal
  ba : a.bal
  bb : b.bal
  vo : ∀ k, V k (look k o.list)
  va : ∀ k, V k (look k a.list)
  vb : ∀ k, V k (look k b.list)
  no : o.n ≤ 1000
  nab : a.n + b.n ≤ 1000
theorem Trio.goes {V : ByteArray → Int × Bool → Prop} {B Tk : Nat} {W W' : World} {o a b : T} (h : Trio V W o a b) (hg : Goes B Tk W W') : Trio V W' o a b := ⟨In.goes hg h.io, In.goes hg h.ia, In.goes hg h.ib, h.so, h.sa, h.sb, h.bo, h.ba, h.bb, h.vo, h.va, h.vb, h.no, h.nab⟩
/-- The two sides of three maps that are split. -/
theorem Trio.sides {V : ByteArray → Int × Bool → Prop} {B : Nat} {W W' : World} {K : ByteArray} {o a b o1 o2 f a1 a2 g b1 b2 h : T} (ht : Trio V W o a b) (h0 : ∀ k, V k (0, false)) (so : Splits B K o o1 f o2) (sa : Splits B K a a1 g a2) (sb : Splits B K b b1 h b2) (i1 : In W' o1) (i2 : In W' o2) (i3 : In W' a1) (i4 : In W' a2) (i5 : In W' b1) (i6 : In W' b2) : Trio V W' o1 a1 b1 ∧ Trio V W' o2 a2 b2 := by
  have xo := so.sides ht.so
  have xa := sa.sides ht.sa
  have xb := sb.sides ht.sb
  obtain ⟨vo1, vo2⟩ := xo.valid h0 ht.vo
  obtain ⟨va1, va2⟩ := xa.valid h0 ht.va
  obtain ⟨vb1, vb2⟩ := xb.valid h0 ht.vb
  have e1 := xo.n
  have e2 := xa.n
  have e3 := xb.n
  have e4 := ht.no
  have e5 := ht.nab
  exact ⟨⟨i1, i3, i5, xo.asrt, xa.asrt, xb.asrt, (so.bal ht.bo).1, (sa.bal ht.ba).1, (sb.bal ht.bb).1, vo1, va1, vb1, by omega, by omega⟩, ⟨i2, i4, i6, xo.bsrt, xa.bsrt, xb.bsrt, (so.bal ht.bo).2, (sa.bal ht.ba).2, (sb.bal ht.bb).2, vo2, va2, vb2, by omega, by omega⟩⟩
/-- What the rule may be asked. -/
def AskOk (A : ByteArray → Int × Bool → Int × Bool → Int × Bool → Prop) (o a b : T) : Prop := ∀ k, ((look k a.list).2 = true ∨ (look k b.list).2 = true) → A k (look k o.list) (look k a.list) (look k b.list)
theorem Sides.left_key {K k : ByteArray} {t a f b : T} (h : Sides K t a f b) (hk : (look k a.list).2 = true) : cmpB k K = -1 := by
  obtain ⟨y, hy, rfl⟩ := look_mem hk
  exact h.less y hy
theorem Sides.right_key {K k : ByteArray} {t a f b : T} (h : Sides K t a f b) (hk : (look k b.list).2 = true) : cmpB K k = -1 := by
  obtain ⟨y, hy, rfl⟩ := look_mem hk
  exact h.more y hy
theorem AskOk.sides {A : ByteArray → Int × Bool → Int × Bool → Int × Bool → Prop} {K : ByteArray} {o a b o1 o2 f a1 a2 g b1 b2 h : T} (hk : AskOk A o a b) (xo : Sides K o o1 f o2) (xa : Sides K a a1 g a2) (xb : Sides K b b1 h b2) : AskOk A o1 a1 b1 ∧ AskOk A o2 a2 b2 := by
  refine ⟨fun k hh => ?_, fun k hh => ?_⟩
  · have hc : cmpB k K = -1 := hh.elim xa.left_key xb.left_key
    have := hk k (by rw [xa.below k hc, xb.below k hc]; exact hh)
    rw [xo.below k hc, xa.below k hc, xb.below k hc] at this
    exact this
  · have hc : cmpB K k = -1 := hh.elim xa.right_key xb.right_key
    have := hk k (by rw [xa.above k hc, xb.above k hc]; exact hh)
    rw [xo.above k hc, xa.above k hc, xb.above k hc] at this
    exact this
theorem AskOk.top {A : ByteArray → Int × Bool → Int × Bool → Int × Bool → Prop} {K : ByteArray} {o a b o1 o2 f a1 a2 g b1 b2 h : T} (hk : AskOk A o a b) (xo : Sides K o o1 f o2) (xa : Sides K a a1 g a2) (xb : Sides K b b1 h b2) (ht : g.isSome = true ∨ h.isSome = true) : A K f.part g.part h.part := by
  have := hk K (by rw [xa.at_, xb.at_]; exact ht)
  rw [xo.at_, xa.at_, xb.at_] at this
  exact this
theorem Closes.mono {B B' : Nat} {l r t : T} (h : Closes B' l r t) (hB : B ≤ B') : Closes B l r t := by
  rcases h with h | ⟨hn, r', t0, ht, hj, e⟩
  · exact .inl h
  · exact .inr ⟨hn, r', t0, ht.mono hB, hj.mono hB, e⟩
theorem Runs.mono {B B' : Nat} {R : ByteArray → Int × Bool → Int × Bool → Int × Bool → Int × Bool} {o a b t : T} {ks : List ByteArray} (h : Runs B' R o a b t ks) (hB : B ≤ B') : Runs B R o a b t ks := by
  induction h with
  | same => exact .same
  | left h => exact .left h
  | right h => exact .right h
  | joins n1 n2 n3 so sa sb _ _ hr hj ih1 ih2 => exact .joins n1 n2 n3 (so.mono hB) (sa.mono hB) (sb.mono hB) ih1 ih2 hr (hj.mono hB)
  | closes n1 n2 n3 so sa sb _ _ hr hj hb ih1 ih2 => exact .closes n1 n2 n3 (so.mono hB) (sa.mono hB) (sb.mono hB) ih1 ih2 hr (hj.mono hB) hb
end Go.Proofs.Ytckkoigghkgfdaa
