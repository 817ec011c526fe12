/-
  walk: Changes: THE CLOSURE THAT GOES OVER TWO MAPS (38).
-/
import Derived.Test.YtckkoigghkgfdaaIterC
import Derived.Test.YtckkoigghkgfdaaOrdC
import Derived.Test.YtckkoigghkgfdaaRun
import Derived.BigFrameIn
import Derived.BigGuardIn
namespace Go.Proofs.Ytckkoigghkgfdaa
open Go.RowKit Go.Shelf
set_option linter.unusedSimpArgs false
attribute [local go_sem] Oper.semAt_some

section
variable {n : Nat} {P : Program} {ops : Array Oper} {Q : Exit → Act → World → Prop} {a : Act} {w : World} {rest : List Oper} {o : Oper}
theorem li_take {d : Tmp} {OP : Op} {T : TypeId} {v : Value} (hd : o.dst = some d) (ho : o.op = OP) (ht : o.type = T) (hw : Region.wanted o (yielded ops a.tmps) = true) (hy : (execOp a.eval { dst := none, op := OP, type := T, pos := "", after := #[], guard := none }).run P w = .ok (.value v) w)
    (h : wpListIn Fence.wide n P ops Q rest (a.put (some d) v) w) : wpListIn Fence.wide n P ops Q (o :: rest) a w := by
  unfold wpListIn
  rw [if_pos hw]
  refine ⟨fun _ _ => trivial, ?_⟩
  rw [show o.semAt Fence.wide.round a.eval = execOp a.eval o from Oper.semAt_none _ _, exec_same a.eval o ho ht, hy]
  show wpListIn Fence.wide n P ops Q rest (a.put o.dst v) w
  rw [hd]
  exact h
theorem li_pass {d : Tmp} (hd : o.dst = some d) (hw : Region.wanted o (yielded ops a.tmps) = false) (h : wpListIn Fence.wide n P ops Q rest (a.put (some d) undef) w) : wpListIn Fence.wide n P ops Q (o :: rest) a w := by
  unfold wpListIn
  rw [if_neg (by rw [hw]; exact Bool.false_ne_true), hd]
  exact ⟨fun _ _ => trivial, h⟩
theorem li_call {d : Tmp} {OP : Op} {T : TypeId} {f : FuncId} {args : Array Value} (hd : o.dst = some d) (ho : o.op = OP) (ht : o.type = T) (hw : Region.wanted o (yielded ops a.tmps) = true) (hy : (execOp a.eval { dst := none, op := OP, type := T, pos := "", after := #[], guard := none }).run P w = .ok (.enter f args) w)
    (h : Calls P f args w fun e w' => ∃ v, e = .returned v ∧ wpListIn Fence.wide n P ops Q rest (a.put (some d) v) w') : wpListIn Fence.wide n P ops Q (o :: rest) a w := by
  unfold wpListIn
  rw [if_pos hw]
  refine ⟨fun _ _ => trivial, ?_⟩
  rw [show o.semAt Fence.wide.round a.eval = execOp a.eval o from Oper.semAt_none _ _, exec_same a.eval o ho ht, hy]
  refine ⟨fun e => (by cases e), callsIn_wide.2 (h.mono ?_)⟩
  rintro e w' ⟨v, rfl, hx⟩
  show wpListIn Fence.wide n P ops Q rest (a.put o.dst v) w'
  rw [hd]
  exact hx
theorem li_yield {d : Tmp} {OP : Op} {T : TypeId} {l : Nat} {args : Array Value} (hd : o.dst = some d) (ho : o.op = OP) (ht : o.type = T) (hw : Region.wanted o (yielded ops a.tmps) = true) (hy : (execOp a.eval { dst := none, op := OP, type := T, pos := "", after := #[], guard := none }).run P w = (Instr.yield l args).run P w)
    (h : YieldAt Fence.wide (n - 1) P l args w fun e w' => ∃ v, e = .returned v ∧ wpListIn Fence.wide n P ops Q rest (a.put (some d) v) w') : wpListIn Fence.wide n P ops Q (o :: rest) a w := by
  obtain ⟨fn, ts, asg, b, h1, h2⟩ := h
  unfold wpListIn
  rw [if_pos hw]
  refine ⟨fun _ _ => trivial, ?_⟩
  rw [show o.semAt Fence.wide.round a.eval = execOp a.eval o from Oper.semAt_none _ _, exec_same a.eval o ho ht, hy, h1]
  refine ⟨fun e => (by cases e), h2.mono ?_⟩
  rintro e w' ⟨v, rfl, hx⟩
  show wpListIn Fence.wide n P ops Q rest (a.put o.dst v) w'
  rw [hd]
  exact hx
theorem li_nil (h : Q .normal a w) : wpListIn Fence.wide n P ops Q [] a w := h
end
/-- All of a tree's blocks. -/
def NB (P : Nat → Prop) : T → Prop
  | .nil => True
  | .node p _ _ l r => P p ∧ NB P l ∧ NB P r
theorem Built.nb {B : Nat} {P : Nat → Prop} (hP : ∀ p, B ≤ p → P p) {t : T} (h : Built B (NB P) t) : NB P t := by
  induction h with
  | nil => trivial
  | old h => exact h
  | new hp _ _ ih1 ih2 => exact ⟨hP _ hp, ih1, ih2⟩
theorem nb_down (P : Nat → Prop) : Down (NB P) := fun _ _ _ _ _ h => ⟨h.2.1, h.2.2⟩
theorem Splits.nb {B : Nat} {P : Nat → Prop} (hP : ∀ p, B ≤ p → P p) {k : ByteArray} {t a f b : T} (h : Splits B k t a f b) : NB P t → NB P a ∧ NB P b := by
  induction h with
  | none => exact fun _ => ⟨trivial, trivial⟩
  | left hc _ hj ih =>
    intro hn
    obtain ⟨i1, i2⟩ := ih hn.2.1
    exact ⟨i1, Built.nb hP (hj.built (nb_down P) hn (.old i2) (.old hn.2.2))⟩
  | right hc _ hj ih =>
    intro hn
    obtain ⟨i1, i2⟩ := ih hn.2.2
    exact ⟨Built.nb hP (hj.built (nb_down P) hn (.old hn.2.1) (.old i1)), i2⟩
  | same hc => exact fun hn => ⟨hn.2.1, hn.2.2⟩
theorem In.nb {D P : Nat → Prop} {W W' : World} (ho : Only D W W') (hD : ∀ j, D j → ¬ P j) : ∀ {t : T}, In W t → NB P t → In W' t
  | .nil, _, _ => trivial
  | .node p _ _ _ _, ⟨h1, h2, h3⟩, ⟨n1, n2, n3⟩ => ⟨(ho.block p (Array.getElem?_eq_some_iff.1 h1).1 (fun d => hD p d n1)).trans h1, In.nb ho hD h2 n2, In.nb ho hD h3 n3⟩
/-- What a round is handed. -/
def encC (x : Ch) : Array Value := #[.string x.1, .agg #[.int .i64 x.2.1.1, .bool x.2.1.2, .int .i64 x.2.2.1, .bool x.2.2.2]]
/-- What the closure has. -/
structure CEnv (W : World) (L2 L3 l : Nat) : Prop where
  b2 : W.cell? ⟨L2, 0, none⟩ = some (.func (.func 38) #[] #[.pointer (some ⟨L2, 0, none⟩), .pointer (some ⟨L3, 0, none⟩)])
  b3 : W.cell? ⟨L3, 0, none⟩ = some (.func (.yield l) #[] #[])
set_option maxHeartbeats 8000000 in
set_option maxRecDepth 100000 in
theorem over_chg (L2 L3 l base : Nat) (xs : List Ch) (D P : Nat → Prop) (J : Nat → World → Prop) (Jx : World → Prop) (hDP : ∀ j, D j → ¬ P j) (hP : ∀ p, base ≤ p → P p) (hP2 : P L2) (hP3 : P L3) (hJB : ∀ c W W', J c W → Below W.heap.size W W' → J c W')
    (hY : ∀ c x W, xs[c]? = some x → J c W → CEnv W L2 L3 l → base ≤ W.heap.size → YieldAt Fence.wide 4 Try.prog l (encC x) W (Went D J Jx W (c + 1))) :
    ∀ (N : Nat) (a b : T) (c : Nat) (W : World) (ls : List Ch), a.n + b.n ≤ N → a.n + b.n ≤ 1000 → In W a → In W b → NB P a → NB P b → Srt a.list → Srt b.list → CEnv W L2 L3 l → base ≤ W.heap.size → J c W → IsChg a.list b.list ls → (∀ i x, ls[i]? = some x → xs[c + i]? = some x) →
      Calls Try.prog 38 #[mv a, mv b, .pointer (some ⟨L2, 0, none⟩), .pointer (some ⟨L3, 0, none⟩)] W (Went D J Jx W (c + ls.length)) := by
  intro N
  induction N using Nat.strongRecOn with
  | ind N ih =>
  intro a b c W ls hN hN2 ia ib na nb Sa Sb he hbase hJ hls hxs
  obtain ⟨pa, ha⟩ := a.ptr_shape
  obtain ⟨pb, hb⟩ := b.ptr_shape
  rw [mv_ptr ha, mv_ptr hb]
  obtain ⟨m0, m1⟩ := new2 W (.cells #[.pointer pa] 29) (.cells #[.pointer pb] 29)
  have b0 : Below W.heap.size W ((W.alloc (.cells #[.pointer pa] 29)).alloc (.cells #[.pointer pb] 29)) := ((Below.refl _ W).alloc (Nat.le_refl _) _).alloc (by simp) _
  obtain ⟨w0, hw0⟩ : ∃ w0, w0 = (W.alloc (.cells #[.pointer pa] 29)).alloc (.cells #[.pointer pb] 29) := ⟨_, rfl⟩
  rw [← hw0] at m0 m1 b0
  have d0 : w0.cell? ⟨W.heap.size, 0, none⟩ = some (.pointer pa) := (cell_of_row _ _ 0 _ 29 (0, 0) m0).trans rfl
  have d1 : w0.cell? ⟨W.heap.size + 1, 0, none⟩ = some (.pointer pb) := (cell_of_row _ _ 0 _ 29 (0, 0) m1).trans rfl
  have cS : Calls Try.prog 19 #[.agg #[.pointer pa], .agg #[.pointer pb]] w0 fun e w' => e = .returned (.bool (decide (a = b))) ∧ Below w0.heap.size w0 w' := by
    have := mSame_any a b w0 (In.below b0 ia) (In.below b0 ib)
    rw [mv_ptr ha, mv_ptr hb] at this
    exact this
  obtain ⟨X, hX⟩ : ∃ X, X = W.heap.size := ⟨_, rfl⟩
  by_cases hab : a = b
  · rw [decide_eq_true hab] at cS
    have hl0 : ls = [] := by rw [hab] at hls; exact chg_none hls
    have HF : Hid (∀ W', Below W.heap.size W W' → Went D J Jx W (c + ls.length) (.returned (.bool true)) W') := hide (fun W' hW => ⟨below_only hW, .inl ⟨rfl, by rw [hl0]; exact hJB _ _ _ hJ hW⟩⟩)
    have HB0 := hide b0
    clear ih hY hls hxs he hJ m0 m1 b0 ha hb hab hl0 hN ia ib na nb Sa Sb hX
    go_enter Try.func38, Try.ntmps38
    go_upto_region 1 with (fail)
    rw [← hw0]
    clear hw0
    go_wp2_with (go_at_call 19; refine cS.mono ?_; rintro e w1 ⟨rfl, b1⟩; dsimp only)
    go_ret
    exact HF.out w1 (HB0.out.trans (b1.mono HB0.out.size))
  · rw [decide_eq_false hab] at cS
    have cT : ∀ W', Below w0.heap.size w0 W' → Calls Try.prog 32 #[.agg #[.pointer pa], .agg #[.pointer pb]] W' fun e w' => e = .returned (.string (topK a b)) ∧ Below W'.heap.size W' w' := fun W' hW => by
      have := top_any a b W' (In.below hW (In.below b0 ia)) (In.below hW (In.below b0 ib))
      rw [mv_ptr ha, mv_ptr hb] at this
      exact this
    obtain ⟨K, hK⟩ : ∃ K, K = topK a b := ⟨_, rfl⟩
    rw [← hK] at cT
    have HW0 := hide b0
    have hcut : ∀ (s : T) (ps : Option Addr) W', Below w0.heap.size w0 W' → In W s → s.ptr = .pointer ps → s.n ≤ 1000 → Calls Try.prog 33 #[.agg #[.pointer ps], .string K] W' fun e w' => ∃ v, e = .returned v ∧ CutIs W.heap.size K s v w' ∧ Below W'.heap.size W' w' := fun s ps W' hW hs hps hn => by
      have := cutAt_any s K W' (In.below hW (In.below HW0.out hs)) (by omega)
      rw [mv_ptr hps] at this
      refine this.mono ?_
      rintro e w' ⟨s1, f, s2, rfl, hsp, i1, i2, hbl⟩
      exact ⟨_, rfl, ⟨s1, f, s2, rfl, hsp.mono (Nat.le_trans HW0.out.size hW.size), i1, i2⟩, hbl⟩
    have pers : ∀ (s : T) (v : Value) (W1 W2 : World), CutIs W.heap.size K s v W1 → Below W1.heap.size W1 W2 → CutIs W.heap.size K s v W2 := fun s v W1 W2 ⟨s1, f, s2, hv, hsp, i1, i2⟩ hbl => ⟨s1, f, s2, hv, hsp, In.below hbl i1, In.below hbl i2⟩
    have HZ := hide (And.intro ia (And.intro ib (And.intro ha (And.intro hb (And.intro na (And.intro nb (And.intro Sa (And.intro Sb (And.intro he (And.intro hJ (And.intro hls (And.intro hxs (And.intro hab hK)))))))))))))
    have IH := hide ih
    have HYY := hide hY
    clear ih hY hls hxs he hJ m0 m1 b0 ha hb hab ia ib na nb Sa Sb hK
    go_enter Try.func38, Try.ntmps38
    go_upto_region 1 with (fail)
    rw [← hw0]
    rw [← hX] at d0 d1 ⊢
    clear hw0 hX
    go_upto_region 4 with (first
      | (go_at_call 19; refine cS.mono ?_; rintro e w1 ⟨rfl, b1⟩; have B1 := hide b1; have g0 := cell_stays d0 b1; have g1 := cell_stays d1 b1; clear b1; dsimp only)
      | (go_at_call 32; refine (cT w1 B1.out).mono ?_; rintro e w2 ⟨rfl, b2⟩; have q0 : w2.cell? ⟨X, 0, none⟩ = some (.pointer pa) ∧ w2.cell? ⟨X + 1, 0, none⟩ = some (.pointer pb) ∧ Hid (Below w0.heap.size w0 w2) := ⟨cell_stays g0 b2, cell_stays g1 b2, hide (B1.out.trans (b2.mono B1.out.size))⟩; clear b2; dsimp only))
    clear cS cT d0 d1 g0 g1 B1
    have qd : w2.drew.cell? ⟨X, 0, none⟩ = some (.pointer pa) ∧ w2.drew.cell? ⟨X + 1, 0, none⟩ = some (.pointer pb) ∧ Hid (Below w0.heap.size w0 w2.drew) := ⟨q0.1, q0.2.1, hide (q0.2.2.out.trans ((drew_below w2).mono q0.2.2.out.size))⟩
    refine wp_region_held_drew (S := (fun w' => w'.cell? ⟨X, 0, none⟩ = some (.pointer pa) ∧ w'.cell? ⟨X + 1, 0, none⟩ = some (.pointer pb) ∧ Hid (Below w0.heap.size w0 w'))) (by kernel_rfl) qd (fun hHeld => ?_)
    try dsimp only at hHeld
    refine take_op (i := 0) (d := 16) (OP := Op.load 29 (Operand.tmp 4)) (T := 29) (v := ?vzz1) rfl rfl rfl rfl (by kernel_rfl) (by kernel_rfl) (by kernel_rfl) (fun _ _ _ h => h) (by rfl) ?hzz1 hHeld ?rzz1
    case hzz1 => (intro w' hSw; (try dsimp only at hSw); go_simp <;> with_reducible rfl)
    try simp only [Act.put, List.setIfInBounds_toArray, List.set_cons_zero, List.set_cons_succ]
    refine take_op (i := 1) (d := 17) (OP := Op.move (Operand.tmp 7)) (T := 9) (v := ?vzz2) rfl rfl rfl rfl (by kernel_rfl) (by kernel_rfl) (by kernel_rfl) (fun _ _ _ h => h) (by rfl) ?hzz2 hHeld ?rzz2
    case hzz2 => (intro w' hSw; (try dsimp only at hSw); go_simp <;> with_reducible rfl)
    try simp only [Act.put, List.setIfInBounds_toArray, List.set_cons_zero, List.set_cons_succ]
    refine take_op (i := 3) (d := 19) (OP := Op.load 29 (Operand.tmp 5)) (T := 29) (v := ?vzz3) rfl rfl rfl rfl (by kernel_rfl) (by kernel_rfl) (by kernel_rfl) (fun _ _ _ h => h) (by rfl) ?hzz3 hHeld ?rzz3
    case hzz3 => (intro w' hSw; (try dsimp only at hSw); go_simp <;> with_reducible rfl)
    try simp only [Act.put, List.setIfInBounds_toArray, List.set_cons_zero, List.set_cons_succ]
    refine take_op (i := 4) (d := 20) (OP := Op.move (Operand.tmp 7)) (T := 9) (v := ?vzz4) rfl rfl rfl rfl (by kernel_rfl) (by kernel_rfl) (by kernel_rfl) (fun _ _ _ h => h) (by rfl) ?hzz4 hHeld ?rzz4
    case hzz4 => (intro w' hSw; (try dsimp only at hSw); go_simp <;> with_reducible rfl)
    try simp only [Act.put, List.setIfInBounds_toArray, List.set_cons_zero, List.set_cons_succ]
    refine to_reg9 (ops' := ops_regC) (l' := #[true, true, false, true, true, false, false, false, false, false]) rfl (by kernel_rfl) ?_
    refine regC_any (w0 := w2.drew) (C2 := CutIs W.heap.size K a) (C5 := CutIs W.heap.size K b) (x2_0 := .agg #[.pointer pa]) (x2_1 := .string K) (x5_0 := .agg #[.pointer pb]) (x5_1 := .string K) (by simp [Act.eval]) (by simp [Act.eval]) (by simp [Act.eval]) (by simp [Act.eval]) (fun W' hW => ⟨cell_stays qd.1 hW, cell_stays qd.2.1 hW, hide (qd.2.2.out.trans (hW.mono qd.2.2.out.size))⟩) (fun W' hW => hcut a pa W' (qd.2.2.out.trans (hW.mono qd.2.2.out.size)) HZ.out.1 HZ.out.2.2.1 (by omega)) (fun W' hW => hcut b pb W' (qd.2.2.out.trans (hW.mono qd.2.2.out.size)) HZ.out.2.1 HZ.out.2.2.2.1 (by omega)) (pers a) (pers b) ?_ w2.drew (Below.refl _ _)
    rintro v2 v5 B6 B7 W' hbW ⟨a1, g, a2, rfl, sa, ia1, ia2⟩ ⟨b1, h, b2, rfl, sb, ib1, ib2⟩ z6 z7 l6 l7 n67
    obtain ⟨pa1, ha1⟩ := a1.ptr_shape
    obtain ⟨pa2, ha2⟩ := a2.ptr_shape
    obtain ⟨pb1, hb1⟩ := b1.ptr_shape
    obtain ⟨pb2, hb2⟩ := b2.ptr_shape
    unfold cv
    rw [ha1, ha2, hb1, hb2]
    have HSS := hide (And.intro sa (And.intro sb (And.intro ha1 (And.intro ha2 (And.intro hb1 hb2)))))
    obtain ⟨⟨G1, G2⟩, hG⟩ : ∃ F : Int × Bool, F = g.part := ⟨_, rfl⟩
    obtain ⟨⟨H1, H2⟩, hH⟩ : ∃ F : Int × Bool, F = h.part := ⟨_, rfl⟩
    rw [show g.val = G1 from (congrArg Prod.fst hG).symm, show g.isSome = G2 from (congrArg Prod.snd hG).symm, show h.val = H1 from (congrArg Prod.fst hH).symm, show h.isSome = H2 from (congrArg Prod.snd hH).symm]
    have HGH := hide (And.intro hG hH)
    clear hG hH sa sb ha1 ha2 hb1 hb2
    try simp only [Act.put, List.setIfInBounds_toArray, List.set_cons_zero, List.set_cons_succ]
    have hX2 : X + 1 < w2.heap.size := by have := World.block_lt_of_cell? w2 _ q0.2.1; simpa using this
    have hdz : w2.drew.heap.size = w2.heap.size := rfl
    have qW : W'.cell? ⟨X, 0, none⟩ = some (.pointer pa) ∧ W'.cell? ⟨X + 1, 0, none⟩ = some (.pointer pb) ∧ Hid (Below w0.heap.size w0 W') := ⟨cell_stays qd.1 hbW, cell_stays qd.2.1 hbW, hide (qd.2.2.out.trans (hbW.mono qd.2.2.out.size))⟩
    have hlow : w0.heap.size ≤ w2.heap.size := qd.2.2.out.size
    have e0 : W'.cell? ⟨B6, 0, none⟩ = some (.pointer none) := (cell_of_row _ _ 0 _ 70 (0, 0) z6).trans rfl
    have f0 : W'.frozen? ⟨B6, 0, none⟩ = false := frozen_of_row _ _ 0 _ 70 z6
    have e1 : W'.cell? ⟨B6, 1, none⟩ = some (.pointer none) := (cell_of_row _ _ 1 _ 70 (0, 0) z6).trans rfl
    have f1 : W'.frozen? ⟨B6, 1, none⟩ = false := frozen_of_row _ _ 1 _ 70 z6
    have e2 : W'.cell? ⟨B6, 2, none⟩ = some (.int .i64 0) := (cell_of_row _ _ 2 _ 70 (0, 0) z6).trans rfl
    have f2 : W'.frozen? ⟨B6, 2, none⟩ = false := frozen_of_row _ _ 2 _ 70 z6
    have e3 : W'.cell? ⟨B6, 3, none⟩ = some (.bool false) := (cell_of_row _ _ 3 _ 70 (0, 0) z6).trans rfl
    have f3 : W'.frozen? ⟨B6, 3, none⟩ = false := frozen_of_row _ _ 3 _ 70 z6
    obtain ⟨s6, o6⟩ := set4 (.pointer pa1) (.pointer pa2) (.int .i64 G1) (.bool G2) z6
    obtain ⟨y0, hy0⟩ : ∃ y, y = ((((W'.setCell ⟨B6, 0, none⟩ (.pointer pa1)).setCell ⟨B6, 1, none⟩ (.pointer pa2)).setCell ⟨B6, 2, none⟩ (.int .i64 G1)).setCell ⟨B6, 3, none⟩ (.bool G2)) := ⟨_, rfl⟩
    rw [← hy0] at s6 o6
    have qy0 : y0.cell? ⟨X, 0, none⟩ = some (.pointer pa) ∧ y0.cell? ⟨X + 1, 0, none⟩ = some (.pointer pb) ∧ Hid (Below w0.heap.size w0 y0) := ⟨o6.cell qW.1 (fun e => by simp only at e; omega), o6.cell qW.2.1 (fun e => by simp only at e; omega), hide (Below.only qW.2.2.out o6 qW.2.2.out.size (fun j e => by omega))⟩
    have t7_6 := (o6.block _ (Array.getElem?_eq_some_iff.1 z7).1 (fun e => by omega)).trans z7
    have ty6 : ∀ j, j = B6 → ∀ ob, W'.heap[j]? = some ob → ∃ cur e fr, ob = .cells cur e fr ∧ e ≠ 83 := fun j e ob hob => by subst e; rw [z6] at hob; cases hob; exact ⟨_, _, _, rfl, by decide⟩
    refine skip_op (i := 8) (OP := Op.store 70 (Operand.tmp 8) (Operand.tmp 18)) (T := 0) (w' := y0) rfl rfl rfl rfl (by kernel_rfl) (by rfl) (by rw [hy0]; go_simp) ⟨qy0, ?_⟩
    try simp only [Act.put, List.setIfInBounds_toArray, List.set_cons_zero, List.set_cons_succ]
    clear e0 e1 e2 e3 f0 f1 f2 f3 hy0
    have e0 : y0.cell? ⟨B7, 0, none⟩ = some (.pointer none) := (cell_of_row _ _ 0 _ 70 (0, 0) t7_6).trans rfl
    have f0 : y0.frozen? ⟨B7, 0, none⟩ = false := frozen_of_row _ _ 0 _ 70 t7_6
    have e1 : y0.cell? ⟨B7, 1, none⟩ = some (.pointer none) := (cell_of_row _ _ 1 _ 70 (0, 0) t7_6).trans rfl
    have f1 : y0.frozen? ⟨B7, 1, none⟩ = false := frozen_of_row _ _ 1 _ 70 t7_6
    have e2 : y0.cell? ⟨B7, 2, none⟩ = some (.int .i64 0) := (cell_of_row _ _ 2 _ 70 (0, 0) t7_6).trans rfl
    have f2 : y0.frozen? ⟨B7, 2, none⟩ = false := frozen_of_row _ _ 2 _ 70 t7_6
    have e3 : y0.cell? ⟨B7, 3, none⟩ = some (.bool false) := (cell_of_row _ _ 3 _ 70 (0, 0) t7_6).trans rfl
    have f3 : y0.frozen? ⟨B7, 3, none⟩ = false := frozen_of_row _ _ 3 _ 70 t7_6
    obtain ⟨s7, o7⟩ := set4 (.pointer pb1) (.pointer pb2) (.int .i64 H1) (.bool H2) t7_6
    obtain ⟨y1, hy1⟩ : ∃ y, y = ((((y0.setCell ⟨B7, 0, none⟩ (.pointer pb1)).setCell ⟨B7, 1, none⟩ (.pointer pb2)).setCell ⟨B7, 2, none⟩ (.int .i64 H1)).setCell ⟨B7, 3, none⟩ (.bool H2)) := ⟨_, rfl⟩
    rw [← hy1] at s7 o7
    have qy1 : y1.cell? ⟨X, 0, none⟩ = some (.pointer pa) ∧ y1.cell? ⟨X + 1, 0, none⟩ = some (.pointer pb) ∧ Hid (Below w0.heap.size w0 y1) := ⟨o7.cell qy0.1 (fun e => by simp only at e; omega), o7.cell qy0.2.1 (fun e => by simp only at e; omega), hide (Below.only qy0.2.2.out o7 qy0.2.2.out.size (fun j e => by omega))⟩
    have t6_7 := (o7.block _ (Array.getElem?_eq_some_iff.1 s6).1 (fun e => by omega)).trans s6
    have ty7 : ∀ j, j = B7 → ∀ ob, y0.heap[j]? = some ob → ∃ cur e fr, ob = .cells cur e fr ∧ e ≠ 83 := fun j e ob hob => by subst e; rw [t7_6] at hob; cases hob; exact ⟨_, _, _, rfl, by decide⟩
    refine skip_op (i := 9) (OP := Op.store 70 (Operand.tmp 9) (Operand.tmp 21)) (T := 0) (w' := y1) rfl rfl rfl rfl (by kernel_rfl) (by rfl) (by rw [hy1]; go_simp) ⟨qy1, ?_⟩
    try simp only [Act.put, List.setIfInBounds_toArray, List.set_cons_zero, List.set_cons_succ]
    clear e0 e1 e2 e3 f0 f1 f2 f3 hy1
    refine wpAnyH_done (by kernel_rfl) ?_ _
    have ia1' := In.typed o7 ty7 (In.typed o6 ty6 ia1)
    have ia2' := In.typed o7 ty7 (In.typed o6 ty6 ia2)
    have ib1' := In.typed o7 ty7 (In.typed o6 ty6 ib1)
    have ib2' := In.typed o7 ty7 (In.typed o6 ty6 ib2)
    have c60 : y1.cell? ⟨B6, 0, none⟩ = some (.pointer pa1) := (cell_of_row _ _ 0 _ 70 (0, 0) t6_7).trans rfl
    have c61 : y1.cell? ⟨B6, 1, none⟩ = some (.pointer pa2) := (cell_of_row _ _ 1 _ 70 (0, 0) t6_7).trans rfl
    have c62 : y1.cell? ⟨B6, 2, none⟩ = some (.int .i64 G1) := (cell_of_row _ _ 2 _ 70 (0, 0) t6_7).trans rfl
    have c63 : y1.cell? ⟨B6, 3, none⟩ = some (.bool G2) := (cell_of_row _ _ 3 _ 70 (0, 0) t6_7).trans rfl
    have c70 : y1.cell? ⟨B7, 0, none⟩ = some (.pointer pb1) := (cell_of_row _ _ 0 _ 70 (0, 0) s7).trans rfl
    have c71 : y1.cell? ⟨B7, 1, none⟩ = some (.pointer pb2) := (cell_of_row _ _ 1 _ 70 (0, 0) s7).trans rfl
    have c72 : y1.cell? ⟨B7, 2, none⟩ = some (.int .i64 H1) := (cell_of_row _ _ 2 _ 70 (0, 0) s7).trans rfl
    have c73 : y1.cell? ⟨B7, 3, none⟩ = some (.bool H2) := (cell_of_row _ _ 3 _ 70 (0, 0) s7).trans rfl
    have hBy : W.heap.size ≤ B6 ∧ W.heap.size ≤ B7 := ⟨by have := HW0.out.size; omega, by have := HW0.out.size; omega⟩
    have HY1 := hide (HW0.out.trans (qy1.2.2.out.mono HW0.out.size))
    have HIN := hide (And.intro ia1' (And.intro ia2' (And.intro ib1' ib2')))
    clear z6 z7 l6 l7 n67 s6 s7 o6 o7 t7_6 t6_7 ty6 ty7 ia1 ia2 ib1 ib2 ia1' ia2' ib1' ib2' qW qy0 qd hHeld hbW hdz hlow hX2 hcut pers
    have cL2 := cell_stays HZ.out.2.2.2.2.2.2.2.2.1.b2 HY1.out
    have cL3 := cell_stays HZ.out.2.2.2.2.2.2.2.2.1.b3 HY1.out
    obtain ⟨ia, ib, ha, hb, na, nb, Sa, Sb, he, hJ, hls, hxs, hab, hK⟩ := HZ.out
    obtain ⟨sa, sb, ha1, ha2, hb1, hb2⟩ := HSS.out
    obtain ⟨hG, hH⟩ := HGH.out
    have hcnt : a1.n + a2.n + b1.n + b2.n + 1 ≤ a.n + b.n := by
      have sa' := sa
      have sb' := sb
      rw [hK] at sa' sb'
      exact cut_count hab sa' sb' Sa Sb
    obtain ⟨l1, l2, i1, i2, els⟩ := chg_split hls (sa.sides Sa) (sb.sides Sb)
    have hPW : ∀ p, W.heap.size ≤ p → P p := fun p h => hP p (Nat.le_trans hbase h)
    obtain ⟨na1, na2⟩ := sa.nb hPW na
    obtain ⟨nb1, nb2⟩ := sb.nb hPW nb
    have ev : ∀ W', Only D y1 W' → CEnv W' L2 L3 l := fun W' ho => ⟨ho.cell cL2 (fun d => hDP _ d hP2), ho.cell cL3 (fun d => hDP _ d hP3)⟩
    have hb1' : base ≤ y1.heap.size := Nat.le_trans hbase HY1.out.size
    have I1 : Calls Try.prog 38 #[.agg #[.pointer pa1], .agg #[.pointer pb1], .pointer (some ⟨L2, 0, none⟩), .pointer (some ⟨L3, 0, none⟩)] y1 (Went D J Jx y1 (c + l1.length)) := by
      have := IH.out (a1.n + b1.n) (by omega) a1 b1 c y1 l1 (Nat.le_refl _) (by omega) HIN.out.1 HIN.out.2.2.1 na1 nb1 (sa.sides Sa).asrt (sb.sides Sb).asrt (ev y1 (Only.refl _ _)) hb1' (hJB _ _ _ hJ HY1.out) i1 (fun i x hi => hxs i x (by rw [els, List.getElem?_append_left (List.getElem?_eq_some_iff.1 hi).1]; exact hi))
      rw [mv_ptr ha1, mv_ptr hb1] at this
      exact this
    have I2 : ∀ W' m, Only D y1 W' → J (c + l1.length + m) W' → m = (if G2 = H2 then 0 else 1) → Calls Try.prog 38 #[.agg #[.pointer pa2], .agg #[.pointer pb2], .pointer (some ⟨L2, 0, none⟩), .pointer (some ⟨L3, 0, none⟩)] W' (Went D J Jx W' (c + ls.length)) := fun W' m ho hj hm0 => by
      have hm : m = (if g.isSome = h.isSome then 0 else 1) := by
        have e1 : G2 = g.isSome := congrArg Prod.snd hG
        have e2 : H2 = h.isSome := congrArg Prod.snd hH
        simp only [e1, e2] at hm0
        exact hm0
      have hlen : ls.length = l1.length + m + l2.length := by rw [els, hm]; split <;> simp <;> omega
      have := IH.out (a2.n + b2.n) (by omega) a2 b2 (c + l1.length + m) W' l2 (Nat.le_refl _) (by omega) (In.nb ho hDP HIN.out.2.1 na2) (In.nb ho hDP HIN.out.2.2.2 nb2) na2 nb2 (sa.sides Sa).bsrt (sb.sides Sb).bsrt (ev W' ho) (Nat.le_trans hb1' ho.size) hj i2 (fun i x hi => by
        have h1 := hxs (l1.length + m + i) x (by
          rw [els, hm]
          by_cases hgh : g.isSome = h.isSome
          · rw [if_pos hgh, if_pos hgh, Nat.add_zero, List.nil_append, List.getElem?_append_right (by omega), Nat.add_sub_cancel_left]; exact hi
          · rw [if_neg hgh, if_neg hgh, List.getElem?_append_right (by omega), show l1.length + 1 + i - l1.length = i + 1 from by omega]; simpa using hi)
        rw [show c + l1.length + m + i = c + (l1.length + m + i) from by omega]
        exact h1)
      rw [mv_ptr ha2, mv_ptr hb2, show c + l1.length + m + l2.length = c + ls.length from by omega] at this
      exact this
    have YY : ∀ W', Only D y1 W' → J (c + l1.length) W' → ¬ G2 = H2 → YieldAt Fence.wide 4 Try.prog l #[.string K, .agg #[.int .i64 G1, .bool G2, .int .i64 H1, .bool H2]] W' (Went D J Jx W' (c + l1.length + 1)) := fun W' ho hj hne => by
      have hg : ¬ g.isSome = h.isSome := by
        have e1 : G2 = g.isSome := congrArg Prod.snd hG
        have e2 : H2 = h.isSome := congrArg Prod.snd hH
        rw [← e1, ← e2]
        exact hne
      have hx := hxs l1.length (K, (G1, G2), (H1, H2)) (by rw [els, if_neg hg, List.getElem?_append_right (Nat.le_refl _), Nat.sub_self, hG, hH]; rfl)
      exact HYY.out (c + l1.length) _ W' hx hj (ev W' ho) (Nat.le_trans hb1' ho.size)
    have keep : ∀ W', Only D y1 W' → W'.cell? ⟨L2, 0, none⟩ = some (.func (.func 38) #[] #[.pointer (some ⟨L2, 0, none⟩), .pointer (some ⟨L3, 0, none⟩)]) ∧ W'.cell? ⟨L3, 0, none⟩ = some (.func (.yield l) #[] #[]) ∧ W'.cell? ⟨B6, 1, none⟩ = some (.pointer pa2) ∧ W'.cell? ⟨B6, 2, none⟩ = some (.int .i64 G1) ∧ W'.cell? ⟨B6, 3, none⟩ = some (.bool G2) ∧ W'.cell? ⟨B7, 1, none⟩ = some (.pointer pb2) ∧ W'.cell? ⟨B7, 2, none⟩ = some (.int .i64 H1) ∧ W'.cell? ⟨B7, 3, none⟩ = some (.bool H2) := fun W' ho =>
      ⟨(ev W' ho).b2, (ev W' ho).b3, ho.cell c61 (fun d => hDP _ d (hPW _ hBy.1)), ho.cell c62 (fun d => hDP _ d (hPW _ hBy.1)), ho.cell c63 (fun d => hDP _ d (hPW _ hBy.1)), ho.cell c71 (fun d => hDP _ d (hPW _ hBy.2)), ho.cell c72 (fun d => hDP _ d (hPW _ hBy.2)), ho.cell c73 (fun d => hDP _ d (hPW _ hBy.2))⟩
    have oW : Only D W y1 := below_only HY1.out
    have KK := hide keep
    have II2 := hide I2
    have YYY := hide YY
    have OW := hide oW
    clear keep I2 YY oW hcnt i1 i2 els na1 na2 nb1 nb2 ia ib ha hb na nb Sa Sb he hJ hls hxs hab hK sa sb ha1 ha2 hb1 hb2 hG hH ev hb1' HZ HSS HGH IH HYY HIN HY1 hBy hPW HW0 q0 qy1
    have hn5 : 1 ≤ 5 := by omega
    go_upto_region 5 with (fail)
    refine (wpIn_wide (n := 5)).1 (wpIn_region_list ?_)
    refine li_take (d := 22) (OP := Op.load 75 (Operand.tmp 2)) (T := 75) (v := ?vzz5) rfl rfl rfl (by rfl) ?hzz5 ?rzz5
    case hzz5 => go_simp <;> with_reducible rfl
    try simp only [Act.put, List.setIfInBounds_toArray, List.set_cons_zero, List.set_cons_succ]
    refine li_take (d := 23) (OP := Op.fieldAddr 70 (Operand.tmp 8) 0) (T := 0) (v := ?vzz6) rfl rfl rfl (by rfl) ?hzz6 ?rzz6
    case hzz6 => go_simp <;> with_reducible rfl
    try simp only [Act.put, List.setIfInBounds_toArray, List.set_cons_zero, List.set_cons_succ]
    refine li_take (d := 24) (OP := Op.load 29 (Operand.tmp 23)) (T := 29) (v := ?vzz7) rfl rfl rfl (by rfl) ?hzz7 ?rzz7
    case hzz7 => go_simp <;> with_reducible rfl
    try simp only [Act.put, List.setIfInBounds_toArray, List.set_cons_zero, List.set_cons_succ]
    refine li_take (d := 25) (OP := Op.fieldAddr 70 (Operand.tmp 9) 0) (T := 0) (v := ?vzz8) rfl rfl rfl (by rfl) ?hzz8 ?rzz8
    case hzz8 => go_simp <;> with_reducible rfl
    try simp only [Act.put, List.setIfInBounds_toArray, List.set_cons_zero, List.set_cons_succ]
    refine li_take (d := 26) (OP := Op.load 29 (Operand.tmp 25)) (T := 29) (v := ?vzz9) rfl rfl rfl (by rfl) ?hzz9 ?rzz9
    case hzz9 => go_simp <;> with_reducible rfl
    try simp only [Act.put, List.setIfInBounds_toArray, List.set_cons_zero, List.set_cons_succ]
    refine li_call (d := 27) (OP := Op.call { callee := Callee.value (Operand.tmp 22), args := #[Operand.tmp 24, Operand.tmp 26], argTypes := #[29, 29] }) (T := 4) (f := 38) (args := #[.agg #[.pointer pa1], .agg #[.pointer pb1], .pointer (some ⟨L2, 0, none⟩), .pointer (some ⟨L3, 0, none⟩)]) rfl rfl rfl (by rfl) (by go_simp) ?_
    refine (I1).mono ?_
    rintro e v2 ⟨o2, (⟨rfl, j2⟩ | ⟨rfl, x2⟩)⟩
    · refine ⟨_, rfl, ?_⟩
      try simp only [Act.put, List.setIfInBounds_toArray, List.set_cons_zero, List.set_cons_succ]
      clear I1
      obtain ⟨k2, k3, k61, k62, k63, k71, k72, k73⟩ := KK.out v2 o2
      refine li_take (d := 28) (OP := Op.move (Operand.tmp 27)) (T := 4) (v := ?vzz10) rfl rfl rfl (by rfl) ?hzz10 ?rzz10
      case hzz10 => go_simp <;> with_reducible rfl
      try simp only [Act.put, List.setIfInBounds_toArray, List.set_cons_zero, List.set_cons_succ]
      cases G2
      · cases H2
        · as_aux_lemma =>
            refine li_take (d := 29) (OP := Op.fieldAddr 70 (Operand.tmp 8) 2) (T := 0) (v := ?vzz11) rfl rfl rfl (by rfl) ?hzz11 ?rzz11
            case hzz11 => go_simp <;> with_reducible rfl
            try simp only [Act.put, List.setIfInBounds_toArray, List.set_cons_zero, List.set_cons_succ]
            refine li_take (d := 30) (OP := Op.fieldAddr 38 (Operand.tmp 29) 1) (T := 0) (v := ?vzz12) rfl rfl rfl (by rfl) ?hzz12 ?rzz12
            case hzz12 => go_simp <;> with_reducible rfl
            try simp only [Act.put, List.setIfInBounds_toArray, List.set_cons_zero, List.set_cons_succ]
            refine li_take (d := 31) (OP := Op.load 4 (Operand.tmp 30)) (T := 4) (v := ?vzz13) rfl rfl rfl (by rfl) ?hzz13 ?rzz13
            case hzz13 => go_simp <;> with_reducible rfl
            try simp only [Act.put, List.setIfInBounds_toArray, List.set_cons_zero, List.set_cons_succ]
            refine li_take (d := 32) (OP := Op.fieldAddr 70 (Operand.tmp 9) 2) (T := 0) (v := ?vzz14) rfl rfl rfl (by rfl) ?hzz14 ?rzz14
            case hzz14 => go_simp <;> with_reducible rfl
            try simp only [Act.put, List.setIfInBounds_toArray, List.set_cons_zero, List.set_cons_succ]
            refine li_take (d := 33) (OP := Op.fieldAddr 38 (Operand.tmp 32) 1) (T := 0) (v := ?vzz15) rfl rfl rfl (by rfl) ?hzz15 ?rzz15
            case hzz15 => go_simp <;> with_reducible rfl
            try simp only [Act.put, List.setIfInBounds_toArray, List.set_cons_zero, List.set_cons_succ]
            refine li_take (d := 34) (OP := Op.load 4 (Operand.tmp 33)) (T := 4) (v := ?vzz16) rfl rfl rfl (by rfl) ?hzz16 ?rzz16
            case hzz16 => go_simp <;> with_reducible rfl
            try simp only [Act.put, List.setIfInBounds_toArray, List.set_cons_zero, List.set_cons_succ]
            refine li_take (d := 35) (OP := Op.binOp BinOp.eql 4 (Operand.tmp 31) (Operand.tmp 34) 4) (T := 4) (v := ?vzz17) rfl rfl rfl (by rfl) ?hzz17 ?rzz17
            case hzz17 => go_simp <;> with_reducible rfl
            try simp only [Act.put, List.setIfInBounds_toArray, List.set_cons_zero, List.set_cons_succ]
            refine li_take (d := 36) (OP := Op.move (Operand.tmp 35)) (T := 4) (v := ?vzz18) rfl rfl rfl (by rfl) ?hzz18 ?rzz18
            case hzz18 => go_simp <;> with_reducible rfl
            try simp only [Act.put, List.setIfInBounds_toArray, List.set_cons_zero, List.set_cons_succ]
            refine li_pass (d := 37) rfl (by rfl) ?_
            try simp only [Act.put, List.setIfInBounds_toArray, List.set_cons_zero, List.set_cons_succ]
            refine li_pass (d := 38) rfl (by rfl) ?_
            try simp only [Act.put, List.setIfInBounds_toArray, List.set_cons_zero, List.set_cons_succ]
            refine li_pass (d := 39) rfl (by rfl) ?_
            try simp only [Act.put, List.setIfInBounds_toArray, List.set_cons_zero, List.set_cons_succ]
            refine li_pass (d := 40) rfl (by rfl) ?_
            try simp only [Act.put, List.setIfInBounds_toArray, List.set_cons_zero, List.set_cons_succ]
            refine li_pass (d := 41) rfl (by rfl) ?_
            try simp only [Act.put, List.setIfInBounds_toArray, List.set_cons_zero, List.set_cons_succ]
            refine li_pass (d := 42) rfl (by rfl) ?_
            try simp only [Act.put, List.setIfInBounds_toArray, List.set_cons_zero, List.set_cons_succ]
            refine li_pass (d := 43) rfl (by rfl) ?_
            try simp only [Act.put, List.setIfInBounds_toArray, List.set_cons_zero, List.set_cons_succ]
            refine li_pass (d := 44) rfl (by rfl) ?_
            try simp only [Act.put, List.setIfInBounds_toArray, List.set_cons_zero, List.set_cons_succ]
            have IIx := II2.out v2 0 o2 (by simpa using j2) (by simp)
            refine li_take (d := 45) (OP := Op.pick (Operand.tmp 36) (Operand.const (Value.bool true)) (Operand.tmp 44)) (T := 4) (v := ?vzz19) rfl rfl rfl (by rfl) ?hzz19 ?rzz19
            case hzz19 => go_simp <;> with_reducible rfl
            try simp only [Act.put, List.setIfInBounds_toArray, List.set_cons_zero, List.set_cons_succ]
            refine li_take (d := 46) (OP := Op.pick (Operand.tmp 28) (Operand.tmp 45) (Operand.const (Value.bool false))) (T := 4) (v := ?vzz20) rfl rfl rfl (by rfl) ?hzz20 ?rzz20
            case hzz20 => go_simp <;> with_reducible rfl
            try simp only [Act.put, List.setIfInBounds_toArray, List.set_cons_zero, List.set_cons_succ]
            refine li_take (d := 47) (OP := Op.move (Operand.tmp 46)) (T := 4) (v := ?vzz21) rfl rfl rfl (by rfl) ?hzz21 ?rzz21
            case hzz21 => go_simp <;> with_reducible rfl
            try simp only [Act.put, List.setIfInBounds_toArray, List.set_cons_zero, List.set_cons_succ]
            refine li_take (d := 48) (OP := Op.load 75 (Operand.tmp 2)) (T := 75) (v := ?vzz22) rfl rfl rfl (by rfl) ?hzz22 ?rzz22
            case hzz22 => go_simp <;> with_reducible rfl
            try simp only [Act.put, List.setIfInBounds_toArray, List.set_cons_zero, List.set_cons_succ]
            refine li_take (d := 49) (OP := Op.fieldAddr 70 (Operand.tmp 8) 1) (T := 0) (v := ?vzz23) rfl rfl rfl (by rfl) ?hzz23 ?rzz23
            case hzz23 => go_simp <;> with_reducible rfl
            try simp only [Act.put, List.setIfInBounds_toArray, List.set_cons_zero, List.set_cons_succ]
            refine li_take (d := 50) (OP := Op.load 29 (Operand.tmp 49)) (T := 29) (v := ?vzz24) rfl rfl rfl (by rfl) ?hzz24 ?rzz24
            case hzz24 => go_simp <;> with_reducible rfl
            try simp only [Act.put, List.setIfInBounds_toArray, List.set_cons_zero, List.set_cons_succ]
            refine li_take (d := 51) (OP := Op.fieldAddr 70 (Operand.tmp 9) 1) (T := 0) (v := ?vzz25) rfl rfl rfl (by rfl) ?hzz25 ?rzz25
            case hzz25 => go_simp <;> with_reducible rfl
            try simp only [Act.put, List.setIfInBounds_toArray, List.set_cons_zero, List.set_cons_succ]
            refine li_take (d := 52) (OP := Op.load 29 (Operand.tmp 51)) (T := 29) (v := ?vzz26) rfl rfl rfl (by rfl) ?hzz26 ?rzz26
            case hzz26 => go_simp <;> with_reducible rfl
            try simp only [Act.put, List.setIfInBounds_toArray, List.set_cons_zero, List.set_cons_succ]
            refine li_call (d := 53) (OP := Op.call { callee := Callee.value (Operand.tmp 48), args := #[Operand.tmp 50, Operand.tmp 52], argTypes := #[29, 29] }) (T := 4) (f := 38) (args := #[.agg #[.pointer pa2], .agg #[.pointer pb2], .pointer (some ⟨L2, 0, none⟩), .pointer (some ⟨L3, 0, none⟩)]) rfl rfl rfl (by rfl) (by go_simp) ?_
            refine (IIx).mono ?_
            rintro e v4 ⟨o4, (⟨rfl, j4⟩ | ⟨rfl, x4⟩)⟩
            · have HF := hide (show Went D J Jx W (c + ls.length) (.returned (.bool true)) v4 from ⟨OW.out.next (o2.next o4), .inl ⟨rfl, j4⟩⟩)
              refine ⟨_, rfl, ?_⟩
              try simp only [Act.put, List.setIfInBounds_toArray, List.set_cons_zero, List.set_cons_succ]
              refine li_take (d := 54) (OP := Op.pick (Operand.tmp 47) (Operand.tmp 53) (Operand.const (Value.bool false))) (T := 4) (v := ?vzz27) rfl rfl rfl (by rfl) ?hzz27 ?rzz27
              case hzz27 => go_simp <;> with_reducible rfl
              try simp only [Act.put, List.setIfInBounds_toArray, List.set_cons_zero, List.set_cons_succ]
              refine li_take (d := 6) (OP := Op.assign (Operand.tmp 54)) (T := 4) (v := ?vzz28) rfl rfl rfl (by rfl) ?hzz28 ?rzz28
              case hzz28 => go_simp <;> with_reducible rfl
              try simp only [Act.put, List.setIfInBounds_toArray, List.set_cons_zero, List.set_cons_succ]
              refine li_nil ?_
              go_wp2
              go_ret
              exact HF.out
            · have HF := hide (show Went D J Jx W (c + ls.length) (.returned (.bool false)) v4 from ⟨OW.out.next (o2.next o4), .inr ⟨rfl, x4⟩⟩)
              refine ⟨_, rfl, ?_⟩
              try simp only [Act.put, List.setIfInBounds_toArray, List.set_cons_zero, List.set_cons_succ]
              refine li_take (d := 54) (OP := Op.pick (Operand.tmp 47) (Operand.tmp 53) (Operand.const (Value.bool false))) (T := 4) (v := ?vzz29) rfl rfl rfl (by rfl) ?hzz29 ?rzz29
              case hzz29 => go_simp <;> with_reducible rfl
              try simp only [Act.put, List.setIfInBounds_toArray, List.set_cons_zero, List.set_cons_succ]
              refine li_take (d := 6) (OP := Op.assign (Operand.tmp 54)) (T := 4) (v := ?vzz30) rfl rfl rfl (by rfl) ?hzz30 ?rzz30
              case hzz30 => go_simp <;> with_reducible rfl
              try simp only [Act.put, List.setIfInBounds_toArray, List.set_cons_zero, List.set_cons_succ]
              refine li_nil ?_
              go_wp2
              go_ret
              exact HF.out
        · as_aux_lemma =>
            refine li_take (d := 29) (OP := Op.fieldAddr 70 (Operand.tmp 8) 2) (T := 0) (v := ?vzz31) rfl rfl rfl (by rfl) ?hzz31 ?rzz31
            case hzz31 => go_simp <;> with_reducible rfl
            try simp only [Act.put, List.setIfInBounds_toArray, List.set_cons_zero, List.set_cons_succ]
            refine li_take (d := 30) (OP := Op.fieldAddr 38 (Operand.tmp 29) 1) (T := 0) (v := ?vzz32) rfl rfl rfl (by rfl) ?hzz32 ?rzz32
            case hzz32 => go_simp <;> with_reducible rfl
            try simp only [Act.put, List.setIfInBounds_toArray, List.set_cons_zero, List.set_cons_succ]
            refine li_take (d := 31) (OP := Op.load 4 (Operand.tmp 30)) (T := 4) (v := ?vzz33) rfl rfl rfl (by rfl) ?hzz33 ?rzz33
            case hzz33 => go_simp <;> with_reducible rfl
            try simp only [Act.put, List.setIfInBounds_toArray, List.set_cons_zero, List.set_cons_succ]
            refine li_take (d := 32) (OP := Op.fieldAddr 70 (Operand.tmp 9) 2) (T := 0) (v := ?vzz34) rfl rfl rfl (by rfl) ?hzz34 ?rzz34
            case hzz34 => go_simp <;> with_reducible rfl
            try simp only [Act.put, List.setIfInBounds_toArray, List.set_cons_zero, List.set_cons_succ]
            refine li_take (d := 33) (OP := Op.fieldAddr 38 (Operand.tmp 32) 1) (T := 0) (v := ?vzz35) rfl rfl rfl (by rfl) ?hzz35 ?rzz35
            case hzz35 => go_simp <;> with_reducible rfl
            try simp only [Act.put, List.setIfInBounds_toArray, List.set_cons_zero, List.set_cons_succ]
            refine li_take (d := 34) (OP := Op.load 4 (Operand.tmp 33)) (T := 4) (v := ?vzz36) rfl rfl rfl (by rfl) ?hzz36 ?rzz36
            case hzz36 => go_simp <;> with_reducible rfl
            try simp only [Act.put, List.setIfInBounds_toArray, List.set_cons_zero, List.set_cons_succ]
            refine li_take (d := 35) (OP := Op.binOp BinOp.eql 4 (Operand.tmp 31) (Operand.tmp 34) 4) (T := 4) (v := ?vzz37) rfl rfl rfl (by rfl) ?hzz37 ?rzz37
            case hzz37 => go_simp <;> with_reducible rfl
            try simp only [Act.put, List.setIfInBounds_toArray, List.set_cons_zero, List.set_cons_succ]
            refine li_take (d := 36) (OP := Op.move (Operand.tmp 35)) (T := 4) (v := ?vzz38) rfl rfl rfl (by rfl) ?hzz38 ?rzz38
            case hzz38 => go_simp <;> with_reducible rfl
            try simp only [Act.put, List.setIfInBounds_toArray, List.set_cons_zero, List.set_cons_succ]
            refine li_take (d := 37) (OP := Op.load 74 (Operand.tmp 3)) (T := 74) (v := ?vzz39) rfl rfl rfl (by rfl) ?hzz39 ?rzz39
            case hzz39 => go_simp <;> with_reducible rfl
            try simp only [Act.put, List.setIfInBounds_toArray, List.set_cons_zero, List.set_cons_succ]
            refine li_take (d := 38) (OP := Op.move (Operand.tmp 7)) (T := 9) (v := ?vzz40) rfl rfl rfl (by rfl) ?hzz40 ?rzz40
            case hzz40 => go_simp <;> with_reducible rfl
            try simp only [Act.put, List.setIfInBounds_toArray, List.set_cons_zero, List.set_cons_succ]
            refine li_take (d := 39) (OP := Op.fieldAddr 70 (Operand.tmp 8) 2) (T := 0) (v := ?vzz41) rfl rfl rfl (by rfl) ?hzz41 ?rzz41
            case hzz41 => go_simp <;> with_reducible rfl
            try simp only [Act.put, List.setIfInBounds_toArray, List.set_cons_zero, List.set_cons_succ]
            refine li_take (d := 40) (OP := Op.load 38 (Operand.tmp 39)) (T := 38) (v := ?vzz42) rfl rfl rfl (by rfl) ?hzz42 ?rzz42
            case hzz42 => go_simp <;> with_reducible rfl
            try simp only [Act.put, List.setIfInBounds_toArray, List.set_cons_zero, List.set_cons_succ]
            refine li_take (d := 41) (OP := Op.fieldAddr 70 (Operand.tmp 9) 2) (T := 0) (v := ?vzz43) rfl rfl rfl (by rfl) ?hzz43 ?rzz43
            case hzz43 => go_simp <;> with_reducible rfl
            try simp only [Act.put, List.setIfInBounds_toArray, List.set_cons_zero, List.set_cons_succ]
            refine li_take (d := 42) (OP := Op.load 38 (Operand.tmp 41)) (T := 38) (v := ?vzz44) rfl rfl rfl (by rfl) ?hzz44 ?rzz44
            case hzz44 => go_simp <;> with_reducible rfl
            try simp only [Act.put, List.setIfInBounds_toArray, List.set_cons_zero, List.set_cons_succ]
            refine li_take (d := 43) (OP := Op.build 56 #[(0, Operand.tmp 40), (1, Operand.tmp 42)]) (T := 56) (v := ?vzz45) rfl rfl rfl (by rfl) ?hzz45 ?rzz45
            case hzz45 => go_simp <;> with_reducible rfl
            try simp only [Act.put, List.setIfInBounds_toArray, List.set_cons_zero, List.set_cons_succ]
            refine li_yield (d := 44) (OP := Op.call { callee := Callee.value (Operand.tmp 37), args := #[Operand.tmp 38, Operand.tmp 43], argTypes := #[9, 56] }) (T := 4) (l := l) (args := #[.string K, .agg #[.int .i64 G1, .bool false, .int .i64 H1, .bool true]]) rfl rfl rfl (by rfl) (by simp [execOp, resolve, invoke, go_sem, Act.eval]) ?_
            refine YieldAt.mono (YYY.out v2 o2 j2 (by decide)) ?_
            rintro e v3 ⟨o3, (⟨rfl, j3⟩ | ⟨rfl, x3⟩)⟩
            · refine ⟨_, rfl, ?_⟩
              try simp only [Act.put, List.setIfInBounds_toArray, List.set_cons_zero, List.set_cons_succ]
              have o23 := o2.next o3
              clear k2 k3 k61 k62 k63 k71 k72 k73
              obtain ⟨k2, k3, k61, k62, k63, k71, k72, k73⟩ := KK.out v3 o23
              have IIx := II2.out v3 1 o23 j3 (by simp)
              refine li_take (d := 45) (OP := Op.pick (Operand.tmp 36) (Operand.const (Value.bool true)) (Operand.tmp 44)) (T := 4) (v := ?vzz46) rfl rfl rfl (by rfl) ?hzz46 ?rzz46
              case hzz46 => go_simp <;> with_reducible rfl
              try simp only [Act.put, List.setIfInBounds_toArray, List.set_cons_zero, List.set_cons_succ]
              refine li_take (d := 46) (OP := Op.pick (Operand.tmp 28) (Operand.tmp 45) (Operand.const (Value.bool false))) (T := 4) (v := ?vzz47) rfl rfl rfl (by rfl) ?hzz47 ?rzz47
              case hzz47 => go_simp <;> with_reducible rfl
              try simp only [Act.put, List.setIfInBounds_toArray, List.set_cons_zero, List.set_cons_succ]
              refine li_take (d := 47) (OP := Op.move (Operand.tmp 46)) (T := 4) (v := ?vzz48) rfl rfl rfl (by rfl) ?hzz48 ?rzz48
              case hzz48 => go_simp <;> with_reducible rfl
              try simp only [Act.put, List.setIfInBounds_toArray, List.set_cons_zero, List.set_cons_succ]
              refine li_take (d := 48) (OP := Op.load 75 (Operand.tmp 2)) (T := 75) (v := ?vzz49) rfl rfl rfl (by rfl) ?hzz49 ?rzz49
              case hzz49 => go_simp <;> with_reducible rfl
              try simp only [Act.put, List.setIfInBounds_toArray, List.set_cons_zero, List.set_cons_succ]
              refine li_take (d := 49) (OP := Op.fieldAddr 70 (Operand.tmp 8) 1) (T := 0) (v := ?vzz50) rfl rfl rfl (by rfl) ?hzz50 ?rzz50
              case hzz50 => go_simp <;> with_reducible rfl
              try simp only [Act.put, List.setIfInBounds_toArray, List.set_cons_zero, List.set_cons_succ]
              refine li_take (d := 50) (OP := Op.load 29 (Operand.tmp 49)) (T := 29) (v := ?vzz51) rfl rfl rfl (by rfl) ?hzz51 ?rzz51
              case hzz51 => go_simp <;> with_reducible rfl
              try simp only [Act.put, List.setIfInBounds_toArray, List.set_cons_zero, List.set_cons_succ]
              refine li_take (d := 51) (OP := Op.fieldAddr 70 (Operand.tmp 9) 1) (T := 0) (v := ?vzz52) rfl rfl rfl (by rfl) ?hzz52 ?rzz52
              case hzz52 => go_simp <;> with_reducible rfl
              try simp only [Act.put, List.setIfInBounds_toArray, List.set_cons_zero, List.set_cons_succ]
              refine li_take (d := 52) (OP := Op.load 29 (Operand.tmp 51)) (T := 29) (v := ?vzz53) rfl rfl rfl (by rfl) ?hzz53 ?rzz53
              case hzz53 => go_simp <;> with_reducible rfl
              try simp only [Act.put, List.setIfInBounds_toArray, List.set_cons_zero, List.set_cons_succ]
              refine li_call (d := 53) (OP := Op.call { callee := Callee.value (Operand.tmp 48), args := #[Operand.tmp 50, Operand.tmp 52], argTypes := #[29, 29] }) (T := 4) (f := 38) (args := #[.agg #[.pointer pa2], .agg #[.pointer pb2], .pointer (some ⟨L2, 0, none⟩), .pointer (some ⟨L3, 0, none⟩)]) rfl rfl rfl (by rfl) (by go_simp) ?_
              refine (IIx).mono ?_
              rintro e v4 ⟨o4, (⟨rfl, j4⟩ | ⟨rfl, x4⟩)⟩
              · have HF := hide (show Went D J Jx W (c + ls.length) (.returned (.bool true)) v4 from ⟨OW.out.next (o23.next o4), .inl ⟨rfl, j4⟩⟩)
                refine ⟨_, rfl, ?_⟩
                try simp only [Act.put, List.setIfInBounds_toArray, List.set_cons_zero, List.set_cons_succ]
                refine li_take (d := 54) (OP := Op.pick (Operand.tmp 47) (Operand.tmp 53) (Operand.const (Value.bool false))) (T := 4) (v := ?vzz54) rfl rfl rfl (by rfl) ?hzz54 ?rzz54
                case hzz54 => go_simp <;> with_reducible rfl
                try simp only [Act.put, List.setIfInBounds_toArray, List.set_cons_zero, List.set_cons_succ]
                refine li_take (d := 6) (OP := Op.assign (Operand.tmp 54)) (T := 4) (v := ?vzz55) rfl rfl rfl (by rfl) ?hzz55 ?rzz55
                case hzz55 => go_simp <;> with_reducible rfl
                try simp only [Act.put, List.setIfInBounds_toArray, List.set_cons_zero, List.set_cons_succ]
                refine li_nil ?_
                go_wp2
                go_ret
                exact HF.out
              · have HF := hide (show Went D J Jx W (c + ls.length) (.returned (.bool false)) v4 from ⟨OW.out.next (o23.next o4), .inr ⟨rfl, x4⟩⟩)
                refine ⟨_, rfl, ?_⟩
                try simp only [Act.put, List.setIfInBounds_toArray, List.set_cons_zero, List.set_cons_succ]
                refine li_take (d := 54) (OP := Op.pick (Operand.tmp 47) (Operand.tmp 53) (Operand.const (Value.bool false))) (T := 4) (v := ?vzz56) rfl rfl rfl (by rfl) ?hzz56 ?rzz56
                case hzz56 => go_simp <;> with_reducible rfl
                try simp only [Act.put, List.setIfInBounds_toArray, List.set_cons_zero, List.set_cons_succ]
                refine li_take (d := 6) (OP := Op.assign (Operand.tmp 54)) (T := 4) (v := ?vzz57) rfl rfl rfl (by rfl) ?hzz57 ?rzz57
                case hzz57 => go_simp <;> with_reducible rfl
                try simp only [Act.put, List.setIfInBounds_toArray, List.set_cons_zero, List.set_cons_succ]
                refine li_nil ?_
                go_wp2
                go_ret
                exact HF.out
            · have HF := hide (show Went D J Jx W (c + ls.length) (.returned (.bool false)) v3 from ⟨OW.out.next (o2.next o3), .inr ⟨rfl, x3⟩⟩)
              refine ⟨_, rfl, ?_⟩
              try simp only [Act.put, List.setIfInBounds_toArray, List.set_cons_zero, List.set_cons_succ]
              refine li_take (d := 45) (OP := Op.pick (Operand.tmp 36) (Operand.const (Value.bool true)) (Operand.tmp 44)) (T := 4) (v := ?vzz58) rfl rfl rfl (by rfl) ?hzz58 ?rzz58
              case hzz58 => go_simp <;> with_reducible rfl
              try simp only [Act.put, List.setIfInBounds_toArray, List.set_cons_zero, List.set_cons_succ]
              refine li_take (d := 46) (OP := Op.pick (Operand.tmp 28) (Operand.tmp 45) (Operand.const (Value.bool false))) (T := 4) (v := ?vzz59) rfl rfl rfl (by rfl) ?hzz59 ?rzz59
              case hzz59 => go_simp <;> with_reducible rfl
              try simp only [Act.put, List.setIfInBounds_toArray, List.set_cons_zero, List.set_cons_succ]
              refine li_take (d := 47) (OP := Op.move (Operand.tmp 46)) (T := 4) (v := ?vzz60) rfl rfl rfl (by rfl) ?hzz60 ?rzz60
              case hzz60 => go_simp <;> with_reducible rfl
              try simp only [Act.put, List.setIfInBounds_toArray, List.set_cons_zero, List.set_cons_succ]
              refine li_pass (d := 48) rfl (by rfl) ?_
              try simp only [Act.put, List.setIfInBounds_toArray, List.set_cons_zero, List.set_cons_succ]
              refine li_pass (d := 49) rfl (by rfl) ?_
              try simp only [Act.put, List.setIfInBounds_toArray, List.set_cons_zero, List.set_cons_succ]
              refine li_pass (d := 50) rfl (by rfl) ?_
              try simp only [Act.put, List.setIfInBounds_toArray, List.set_cons_zero, List.set_cons_succ]
              refine li_pass (d := 51) rfl (by rfl) ?_
              try simp only [Act.put, List.setIfInBounds_toArray, List.set_cons_zero, List.set_cons_succ]
              refine li_pass (d := 52) rfl (by rfl) ?_
              try simp only [Act.put, List.setIfInBounds_toArray, List.set_cons_zero, List.set_cons_succ]
              refine li_pass (d := 53) rfl (by rfl) ?_
              try simp only [Act.put, List.setIfInBounds_toArray, List.set_cons_zero, List.set_cons_succ]
              refine li_take (d := 54) (OP := Op.pick (Operand.tmp 47) (Operand.tmp 53) (Operand.const (Value.bool false))) (T := 4) (v := ?vzz61) rfl rfl rfl (by rfl) ?hzz61 ?rzz61
              case hzz61 => go_simp <;> with_reducible rfl
              try simp only [Act.put, List.setIfInBounds_toArray, List.set_cons_zero, List.set_cons_succ]
              refine li_take (d := 6) (OP := Op.assign (Operand.tmp 54)) (T := 4) (v := ?vzz62) rfl rfl rfl (by rfl) ?hzz62 ?rzz62
              case hzz62 => go_simp <;> with_reducible rfl
              try simp only [Act.put, List.setIfInBounds_toArray, List.set_cons_zero, List.set_cons_succ]
              refine li_nil ?_
              go_wp2
              go_ret
              exact HF.out
      · cases H2
        · as_aux_lemma =>
            refine li_take (d := 29) (OP := Op.fieldAddr 70 (Operand.tmp 8) 2) (T := 0) (v := ?vzz63) rfl rfl rfl (by rfl) ?hzz63 ?rzz63
            case hzz63 => go_simp <;> with_reducible rfl
            try simp only [Act.put, List.setIfInBounds_toArray, List.set_cons_zero, List.set_cons_succ]
            refine li_take (d := 30) (OP := Op.fieldAddr 38 (Operand.tmp 29) 1) (T := 0) (v := ?vzz64) rfl rfl rfl (by rfl) ?hzz64 ?rzz64
            case hzz64 => go_simp <;> with_reducible rfl
            try simp only [Act.put, List.setIfInBounds_toArray, List.set_cons_zero, List.set_cons_succ]
            refine li_take (d := 31) (OP := Op.load 4 (Operand.tmp 30)) (T := 4) (v := ?vzz65) rfl rfl rfl (by rfl) ?hzz65 ?rzz65
            case hzz65 => go_simp <;> with_reducible rfl
            try simp only [Act.put, List.setIfInBounds_toArray, List.set_cons_zero, List.set_cons_succ]
            refine li_take (d := 32) (OP := Op.fieldAddr 70 (Operand.tmp 9) 2) (T := 0) (v := ?vzz66) rfl rfl rfl (by rfl) ?hzz66 ?rzz66
            case hzz66 => go_simp <;> with_reducible rfl
            try simp only [Act.put, List.setIfInBounds_toArray, List.set_cons_zero, List.set_cons_succ]
            refine li_take (d := 33) (OP := Op.fieldAddr 38 (Operand.tmp 32) 1) (T := 0) (v := ?vzz67) rfl rfl rfl (by rfl) ?hzz67 ?rzz67
            case hzz67 => go_simp <;> with_reducible rfl
            try simp only [Act.put, List.setIfInBounds_toArray, List.set_cons_zero, List.set_cons_succ]
            refine li_take (d := 34) (OP := Op.load 4 (Operand.tmp 33)) (T := 4) (v := ?vzz68) rfl rfl rfl (by rfl) ?hzz68 ?rzz68
            case hzz68 => go_simp <;> with_reducible rfl
            try simp only [Act.put, List.setIfInBounds_toArray, List.set_cons_zero, List.set_cons_succ]
            refine li_take (d := 35) (OP := Op.binOp BinOp.eql 4 (Operand.tmp 31) (Operand.tmp 34) 4) (T := 4) (v := ?vzz69) rfl rfl rfl (by rfl) ?hzz69 ?rzz69
            case hzz69 => go_simp <;> with_reducible rfl
            try simp only [Act.put, List.setIfInBounds_toArray, List.set_cons_zero, List.set_cons_succ]
            refine li_take (d := 36) (OP := Op.move (Operand.tmp 35)) (T := 4) (v := ?vzz70) rfl rfl rfl (by rfl) ?hzz70 ?rzz70
            case hzz70 => go_simp <;> with_reducible rfl
            try simp only [Act.put, List.setIfInBounds_toArray, List.set_cons_zero, List.set_cons_succ]
            refine li_take (d := 37) (OP := Op.load 74 (Operand.tmp 3)) (T := 74) (v := ?vzz71) rfl rfl rfl (by rfl) ?hzz71 ?rzz71
            case hzz71 => go_simp <;> with_reducible rfl
            try simp only [Act.put, List.setIfInBounds_toArray, List.set_cons_zero, List.set_cons_succ]
            refine li_take (d := 38) (OP := Op.move (Operand.tmp 7)) (T := 9) (v := ?vzz72) rfl rfl rfl (by rfl) ?hzz72 ?rzz72
            case hzz72 => go_simp <;> with_reducible rfl
            try simp only [Act.put, List.setIfInBounds_toArray, List.set_cons_zero, List.set_cons_succ]
            refine li_take (d := 39) (OP := Op.fieldAddr 70 (Operand.tmp 8) 2) (T := 0) (v := ?vzz73) rfl rfl rfl (by rfl) ?hzz73 ?rzz73
            case hzz73 => go_simp <;> with_reducible rfl
            try simp only [Act.put, List.setIfInBounds_toArray, List.set_cons_zero, List.set_cons_succ]
            refine li_take (d := 40) (OP := Op.load 38 (Operand.tmp 39)) (T := 38) (v := ?vzz74) rfl rfl rfl (by rfl) ?hzz74 ?rzz74
            case hzz74 => go_simp <;> with_reducible rfl
            try simp only [Act.put, List.setIfInBounds_toArray, List.set_cons_zero, List.set_cons_succ]
            refine li_take (d := 41) (OP := Op.fieldAddr 70 (Operand.tmp 9) 2) (T := 0) (v := ?vzz75) rfl rfl rfl (by rfl) ?hzz75 ?rzz75
            case hzz75 => go_simp <;> with_reducible rfl
            try simp only [Act.put, List.setIfInBounds_toArray, List.set_cons_zero, List.set_cons_succ]
            refine li_take (d := 42) (OP := Op.load 38 (Operand.tmp 41)) (T := 38) (v := ?vzz76) rfl rfl rfl (by rfl) ?hzz76 ?rzz76
            case hzz76 => go_simp <;> with_reducible rfl
            try simp only [Act.put, List.setIfInBounds_toArray, List.set_cons_zero, List.set_cons_succ]
            refine li_take (d := 43) (OP := Op.build 56 #[(0, Operand.tmp 40), (1, Operand.tmp 42)]) (T := 56) (v := ?vzz77) rfl rfl rfl (by rfl) ?hzz77 ?rzz77
            case hzz77 => go_simp <;> with_reducible rfl
            try simp only [Act.put, List.setIfInBounds_toArray, List.set_cons_zero, List.set_cons_succ]
            refine li_yield (d := 44) (OP := Op.call { callee := Callee.value (Operand.tmp 37), args := #[Operand.tmp 38, Operand.tmp 43], argTypes := #[9, 56] }) (T := 4) (l := l) (args := #[.string K, .agg #[.int .i64 G1, .bool true, .int .i64 H1, .bool false]]) rfl rfl rfl (by rfl) (by simp [execOp, resolve, invoke, go_sem, Act.eval]) ?_
            refine YieldAt.mono (YYY.out v2 o2 j2 (by decide)) ?_
            rintro e v3 ⟨o3, (⟨rfl, j3⟩ | ⟨rfl, x3⟩)⟩
            · refine ⟨_, rfl, ?_⟩
              try simp only [Act.put, List.setIfInBounds_toArray, List.set_cons_zero, List.set_cons_succ]
              have o23 := o2.next o3
              clear k2 k3 k61 k62 k63 k71 k72 k73
              obtain ⟨k2, k3, k61, k62, k63, k71, k72, k73⟩ := KK.out v3 o23
              have IIx := II2.out v3 1 o23 j3 (by simp)
              refine li_take (d := 45) (OP := Op.pick (Operand.tmp 36) (Operand.const (Value.bool true)) (Operand.tmp 44)) (T := 4) (v := ?vzz78) rfl rfl rfl (by rfl) ?hzz78 ?rzz78
              case hzz78 => go_simp <;> with_reducible rfl
              try simp only [Act.put, List.setIfInBounds_toArray, List.set_cons_zero, List.set_cons_succ]
              refine li_take (d := 46) (OP := Op.pick (Operand.tmp 28) (Operand.tmp 45) (Operand.const (Value.bool false))) (T := 4) (v := ?vzz79) rfl rfl rfl (by rfl) ?hzz79 ?rzz79
              case hzz79 => go_simp <;> with_reducible rfl
              try simp only [Act.put, List.setIfInBounds_toArray, List.set_cons_zero, List.set_cons_succ]
              refine li_take (d := 47) (OP := Op.move (Operand.tmp 46)) (T := 4) (v := ?vzz80) rfl rfl rfl (by rfl) ?hzz80 ?rzz80
              case hzz80 => go_simp <;> with_reducible rfl
              try simp only [Act.put, List.setIfInBounds_toArray, List.set_cons_zero, List.set_cons_succ]
              refine li_take (d := 48) (OP := Op.load 75 (Operand.tmp 2)) (T := 75) (v := ?vzz81) rfl rfl rfl (by rfl) ?hzz81 ?rzz81
              case hzz81 => go_simp <;> with_reducible rfl
              try simp only [Act.put, List.setIfInBounds_toArray, List.set_cons_zero, List.set_cons_succ]
              refine li_take (d := 49) (OP := Op.fieldAddr 70 (Operand.tmp 8) 1) (T := 0) (v := ?vzz82) rfl rfl rfl (by rfl) ?hzz82 ?rzz82
              case hzz82 => go_simp <;> with_reducible rfl
              try simp only [Act.put, List.setIfInBounds_toArray, List.set_cons_zero, List.set_cons_succ]
              refine li_take (d := 50) (OP := Op.load 29 (Operand.tmp 49)) (T := 29) (v := ?vzz83) rfl rfl rfl (by rfl) ?hzz83 ?rzz83
              case hzz83 => go_simp <;> with_reducible rfl
              try simp only [Act.put, List.setIfInBounds_toArray, List.set_cons_zero, List.set_cons_succ]
              refine li_take (d := 51) (OP := Op.fieldAddr 70 (Operand.tmp 9) 1) (T := 0) (v := ?vzz84) rfl rfl rfl (by rfl) ?hzz84 ?rzz84
              case hzz84 => go_simp <;> with_reducible rfl
              try simp only [Act.put, List.setIfInBounds_toArray, List.set_cons_zero, List.set_cons_succ]
              refine li_take (d := 52) (OP := Op.load 29 (Operand.tmp 51)) (T := 29) (v := ?vzz85) rfl rfl rfl (by rfl) ?hzz85 ?rzz85
              case hzz85 => go_simp <;> with_reducible rfl
              try simp only [Act.put, List.setIfInBounds_toArray, List.set_cons_zero, List.set_cons_succ]
              refine li_call (d := 53) (OP := Op.call { callee := Callee.value (Operand.tmp 48), args := #[Operand.tmp 50, Operand.tmp 52], argTypes := #[29, 29] }) (T := 4) (f := 38) (args := #[.agg #[.pointer pa2], .agg #[.pointer pb2], .pointer (some ⟨L2, 0, none⟩), .pointer (some ⟨L3, 0, none⟩)]) rfl rfl rfl (by rfl) (by go_simp) ?_
              refine (IIx).mono ?_
              rintro e v4 ⟨o4, (⟨rfl, j4⟩ | ⟨rfl, x4⟩)⟩
              · have HF := hide (show Went D J Jx W (c + ls.length) (.returned (.bool true)) v4 from ⟨OW.out.next (o23.next o4), .inl ⟨rfl, j4⟩⟩)
                refine ⟨_, rfl, ?_⟩
                try simp only [Act.put, List.setIfInBounds_toArray, List.set_cons_zero, List.set_cons_succ]
                refine li_take (d := 54) (OP := Op.pick (Operand.tmp 47) (Operand.tmp 53) (Operand.const (Value.bool false))) (T := 4) (v := ?vzz86) rfl rfl rfl (by rfl) ?hzz86 ?rzz86
                case hzz86 => go_simp <;> with_reducible rfl
                try simp only [Act.put, List.setIfInBounds_toArray, List.set_cons_zero, List.set_cons_succ]
                refine li_take (d := 6) (OP := Op.assign (Operand.tmp 54)) (T := 4) (v := ?vzz87) rfl rfl rfl (by rfl) ?hzz87 ?rzz87
                case hzz87 => go_simp <;> with_reducible rfl
                try simp only [Act.put, List.setIfInBounds_toArray, List.set_cons_zero, List.set_cons_succ]
                refine li_nil ?_
                go_wp2
                go_ret
                exact HF.out
              · have HF := hide (show Went D J Jx W (c + ls.length) (.returned (.bool false)) v4 from ⟨OW.out.next (o23.next o4), .inr ⟨rfl, x4⟩⟩)
                refine ⟨_, rfl, ?_⟩
                try simp only [Act.put, List.setIfInBounds_toArray, List.set_cons_zero, List.set_cons_succ]
                refine li_take (d := 54) (OP := Op.pick (Operand.tmp 47) (Operand.tmp 53) (Operand.const (Value.bool false))) (T := 4) (v := ?vzz88) rfl rfl rfl (by rfl) ?hzz88 ?rzz88
                case hzz88 => go_simp <;> with_reducible rfl
                try simp only [Act.put, List.setIfInBounds_toArray, List.set_cons_zero, List.set_cons_succ]
                refine li_take (d := 6) (OP := Op.assign (Operand.tmp 54)) (T := 4) (v := ?vzz89) rfl rfl rfl (by rfl) ?hzz89 ?rzz89
                case hzz89 => go_simp <;> with_reducible rfl
                try simp only [Act.put, List.setIfInBounds_toArray, List.set_cons_zero, List.set_cons_succ]
                refine li_nil ?_
                go_wp2
                go_ret
                exact HF.out
            · have HF := hide (show Went D J Jx W (c + ls.length) (.returned (.bool false)) v3 from ⟨OW.out.next (o2.next o3), .inr ⟨rfl, x3⟩⟩)
              refine ⟨_, rfl, ?_⟩
              try simp only [Act.put, List.setIfInBounds_toArray, List.set_cons_zero, List.set_cons_succ]
              refine li_take (d := 45) (OP := Op.pick (Operand.tmp 36) (Operand.const (Value.bool true)) (Operand.tmp 44)) (T := 4) (v := ?vzz90) rfl rfl rfl (by rfl) ?hzz90 ?rzz90
              case hzz90 => go_simp <;> with_reducible rfl
              try simp only [Act.put, List.setIfInBounds_toArray, List.set_cons_zero, List.set_cons_succ]
              refine li_take (d := 46) (OP := Op.pick (Operand.tmp 28) (Operand.tmp 45) (Operand.const (Value.bool false))) (T := 4) (v := ?vzz91) rfl rfl rfl (by rfl) ?hzz91 ?rzz91
              case hzz91 => go_simp <;> with_reducible rfl
              try simp only [Act.put, List.setIfInBounds_toArray, List.set_cons_zero, List.set_cons_succ]
              refine li_take (d := 47) (OP := Op.move (Operand.tmp 46)) (T := 4) (v := ?vzz92) rfl rfl rfl (by rfl) ?hzz92 ?rzz92
              case hzz92 => go_simp <;> with_reducible rfl
              try simp only [Act.put, List.setIfInBounds_toArray, List.set_cons_zero, List.set_cons_succ]
              refine li_pass (d := 48) rfl (by rfl) ?_
              try simp only [Act.put, List.setIfInBounds_toArray, List.set_cons_zero, List.set_cons_succ]
              refine li_pass (d := 49) rfl (by rfl) ?_
              try simp only [Act.put, List.setIfInBounds_toArray, List.set_cons_zero, List.set_cons_succ]
              refine li_pass (d := 50) rfl (by rfl) ?_
              try simp only [Act.put, List.setIfInBounds_toArray, List.set_cons_zero, List.set_cons_succ]
              refine li_pass (d := 51) rfl (by rfl) ?_
              try simp only [Act.put, List.setIfInBounds_toArray, List.set_cons_zero, List.set_cons_succ]
              refine li_pass (d := 52) rfl (by rfl) ?_
              try simp only [Act.put, List.setIfInBounds_toArray, List.set_cons_zero, List.set_cons_succ]
              refine li_pass (d := 53) rfl (by rfl) ?_
              try simp only [Act.put, List.setIfInBounds_toArray, List.set_cons_zero, List.set_cons_succ]
              refine li_take (d := 54) (OP := Op.pick (Operand.tmp 47) (Operand.tmp 53) (Operand.const (Value.bool false))) (T := 4) (v := ?vzz93) rfl rfl rfl (by rfl) ?hzz93 ?rzz93
              case hzz93 => go_simp <;> with_reducible rfl
              try simp only [Act.put, List.setIfInBounds_toArray, List.set_cons_zero, List.set_cons_succ]
              refine li_take (d := 6) (OP := Op.assign (Operand.tmp 54)) (T := 4) (v := ?vzz94) rfl rfl rfl (by rfl) ?hzz94 ?rzz94
              case hzz94 => go_simp <;> with_reducible rfl
              try simp only [Act.put, List.setIfInBounds_toArray, List.set_cons_zero, List.set_cons_succ]
              refine li_nil ?_
              go_wp2
              go_ret
              exact HF.out
        · as_aux_lemma =>
            refine li_take (d := 29) (OP := Op.fieldAddr 70 (Operand.tmp 8) 2) (T := 0) (v := ?vzz95) rfl rfl rfl (by rfl) ?hzz95 ?rzz95
            case hzz95 => go_simp <;> with_reducible rfl
            try simp only [Act.put, List.setIfInBounds_toArray, List.set_cons_zero, List.set_cons_succ]
            refine li_take (d := 30) (OP := Op.fieldAddr 38 (Operand.tmp 29) 1) (T := 0) (v := ?vzz96) rfl rfl rfl (by rfl) ?hzz96 ?rzz96
            case hzz96 => go_simp <;> with_reducible rfl
            try simp only [Act.put, List.setIfInBounds_toArray, List.set_cons_zero, List.set_cons_succ]
            refine li_take (d := 31) (OP := Op.load 4 (Operand.tmp 30)) (T := 4) (v := ?vzz97) rfl rfl rfl (by rfl) ?hzz97 ?rzz97
            case hzz97 => go_simp <;> with_reducible rfl
            try simp only [Act.put, List.setIfInBounds_toArray, List.set_cons_zero, List.set_cons_succ]
            refine li_take (d := 32) (OP := Op.fieldAddr 70 (Operand.tmp 9) 2) (T := 0) (v := ?vzz98) rfl rfl rfl (by rfl) ?hzz98 ?rzz98
            case hzz98 => go_simp <;> with_reducible rfl
            try simp only [Act.put, List.setIfInBounds_toArray, List.set_cons_zero, List.set_cons_succ]
            refine li_take (d := 33) (OP := Op.fieldAddr 38 (Operand.tmp 32) 1) (T := 0) (v := ?vzz99) rfl rfl rfl (by rfl) ?hzz99 ?rzz99
            case hzz99 => go_simp <;> with_reducible rfl
            try simp only [Act.put, List.setIfInBounds_toArray, List.set_cons_zero, List.set_cons_succ]
            refine li_take (d := 34) (OP := Op.load 4 (Operand.tmp 33)) (T := 4) (v := ?vzz100) rfl rfl rfl (by rfl) ?hzz100 ?rzz100
            case hzz100 => go_simp <;> with_reducible rfl
            try simp only [Act.put, List.setIfInBounds_toArray, List.set_cons_zero, List.set_cons_succ]
            refine li_take (d := 35) (OP := Op.binOp BinOp.eql 4 (Operand.tmp 31) (Operand.tmp 34) 4) (T := 4) (v := ?vzz101) rfl rfl rfl (by rfl) ?hzz101 ?rzz101
            case hzz101 => go_simp <;> with_reducible rfl
            try simp only [Act.put, List.setIfInBounds_toArray, List.set_cons_zero, List.set_cons_succ]
            refine li_take (d := 36) (OP := Op.move (Operand.tmp 35)) (T := 4) (v := ?vzz102) rfl rfl rfl (by rfl) ?hzz102 ?rzz102
            case hzz102 => go_simp <;> with_reducible rfl
            try simp only [Act.put, List.setIfInBounds_toArray, List.set_cons_zero, List.set_cons_succ]
            refine li_pass (d := 37) rfl (by rfl) ?_
            try simp only [Act.put, List.setIfInBounds_toArray, List.set_cons_zero, List.set_cons_succ]
            refine li_pass (d := 38) rfl (by rfl) ?_
            try simp only [Act.put, List.setIfInBounds_toArray, List.set_cons_zero, List.set_cons_succ]
            refine li_pass (d := 39) rfl (by rfl) ?_
            try simp only [Act.put, List.setIfInBounds_toArray, List.set_cons_zero, List.set_cons_succ]
            refine li_pass (d := 40) rfl (by rfl) ?_
            try simp only [Act.put, List.setIfInBounds_toArray, List.set_cons_zero, List.set_cons_succ]
            refine li_pass (d := 41) rfl (by rfl) ?_
            try simp only [Act.put, List.setIfInBounds_toArray, List.set_cons_zero, List.set_cons_succ]
            refine li_pass (d := 42) rfl (by rfl) ?_
            try simp only [Act.put, List.setIfInBounds_toArray, List.set_cons_zero, List.set_cons_succ]
            refine li_pass (d := 43) rfl (by rfl) ?_
            try simp only [Act.put, List.setIfInBounds_toArray, List.set_cons_zero, List.set_cons_succ]
            refine li_pass (d := 44) rfl (by rfl) ?_
            try simp only [Act.put, List.setIfInBounds_toArray, List.set_cons_zero, List.set_cons_succ]
            have IIx := II2.out v2 0 o2 (by simpa using j2) (by simp)
            refine li_take (d := 45) (OP := Op.pick (Operand.tmp 36) (Operand.const (Value.bool true)) (Operand.tmp 44)) (T := 4) (v := ?vzz103) rfl rfl rfl (by rfl) ?hzz103 ?rzz103
            case hzz103 => go_simp <;> with_reducible rfl
            try simp only [Act.put, List.setIfInBounds_toArray, List.set_cons_zero, List.set_cons_succ]
            refine li_take (d := 46) (OP := Op.pick (Operand.tmp 28) (Operand.tmp 45) (Operand.const (Value.bool false))) (T := 4) (v := ?vzz104) rfl rfl rfl (by rfl) ?hzz104 ?rzz104
            case hzz104 => go_simp <;> with_reducible rfl
            try simp only [Act.put, List.setIfInBounds_toArray, List.set_cons_zero, List.set_cons_succ]
            refine li_take (d := 47) (OP := Op.move (Operand.tmp 46)) (T := 4) (v := ?vzz105) rfl rfl rfl (by rfl) ?hzz105 ?rzz105
            case hzz105 => go_simp <;> with_reducible rfl
            try simp only [Act.put, List.setIfInBounds_toArray, List.set_cons_zero, List.set_cons_succ]
            refine li_take (d := 48) (OP := Op.load 75 (Operand.tmp 2)) (T := 75) (v := ?vzz106) rfl rfl rfl (by rfl) ?hzz106 ?rzz106
            case hzz106 => go_simp <;> with_reducible rfl
            try simp only [Act.put, List.setIfInBounds_toArray, List.set_cons_zero, List.set_cons_succ]
            refine li_take (d := 49) (OP := Op.fieldAddr 70 (Operand.tmp 8) 1) (T := 0) (v := ?vzz107) rfl rfl rfl (by rfl) ?hzz107 ?rzz107
            case hzz107 => go_simp <;> with_reducible rfl
            try simp only [Act.put, List.setIfInBounds_toArray, List.set_cons_zero, List.set_cons_succ]
            refine li_take (d := 50) (OP := Op.load 29 (Operand.tmp 49)) (T := 29) (v := ?vzz108) rfl rfl rfl (by rfl) ?hzz108 ?rzz108
            case hzz108 => go_simp <;> with_reducible rfl
            try simp only [Act.put, List.setIfInBounds_toArray, List.set_cons_zero, List.set_cons_succ]
            refine li_take (d := 51) (OP := Op.fieldAddr 70 (Operand.tmp 9) 1) (T := 0) (v := ?vzz109) rfl rfl rfl (by rfl) ?hzz109 ?rzz109
            case hzz109 => go_simp <;> with_reducible rfl
            try simp only [Act.put, List.setIfInBounds_toArray, List.set_cons_zero, List.set_cons_succ]
            refine li_take (d := 52) (OP := Op.load 29 (Operand.tmp 51)) (T := 29) (v := ?vzz110) rfl rfl rfl (by rfl) ?hzz110 ?rzz110
            case hzz110 => go_simp <;> with_reducible rfl
            try simp only [Act.put, List.setIfInBounds_toArray, List.set_cons_zero, List.set_cons_succ]
            refine li_call (d := 53) (OP := Op.call { callee := Callee.value (Operand.tmp 48), args := #[Operand.tmp 50, Operand.tmp 52], argTypes := #[29, 29] }) (T := 4) (f := 38) (args := #[.agg #[.pointer pa2], .agg #[.pointer pb2], .pointer (some ⟨L2, 0, none⟩), .pointer (some ⟨L3, 0, none⟩)]) rfl rfl rfl (by rfl) (by go_simp) ?_
            refine (IIx).mono ?_
            rintro e v4 ⟨o4, (⟨rfl, j4⟩ | ⟨rfl, x4⟩)⟩
            · have HF := hide (show Went D J Jx W (c + ls.length) (.returned (.bool true)) v4 from ⟨OW.out.next (o2.next o4), .inl ⟨rfl, j4⟩⟩)
              refine ⟨_, rfl, ?_⟩
              try simp only [Act.put, List.setIfInBounds_toArray, List.set_cons_zero, List.set_cons_succ]
              refine li_take (d := 54) (OP := Op.pick (Operand.tmp 47) (Operand.tmp 53) (Operand.const (Value.bool false))) (T := 4) (v := ?vzz111) rfl rfl rfl (by rfl) ?hzz111 ?rzz111
              case hzz111 => go_simp <;> with_reducible rfl
              try simp only [Act.put, List.setIfInBounds_toArray, List.set_cons_zero, List.set_cons_succ]
              refine li_take (d := 6) (OP := Op.assign (Operand.tmp 54)) (T := 4) (v := ?vzz112) rfl rfl rfl (by rfl) ?hzz112 ?rzz112
              case hzz112 => go_simp <;> with_reducible rfl
              try simp only [Act.put, List.setIfInBounds_toArray, List.set_cons_zero, List.set_cons_succ]
              refine li_nil ?_
              go_wp2
              go_ret
              exact HF.out
            · have HF := hide (show Went D J Jx W (c + ls.length) (.returned (.bool false)) v4 from ⟨OW.out.next (o2.next o4), .inr ⟨rfl, x4⟩⟩)
              refine ⟨_, rfl, ?_⟩
              try simp only [Act.put, List.setIfInBounds_toArray, List.set_cons_zero, List.set_cons_succ]
              refine li_take (d := 54) (OP := Op.pick (Operand.tmp 47) (Operand.tmp 53) (Operand.const (Value.bool false))) (T := 4) (v := ?vzz113) rfl rfl rfl (by rfl) ?hzz113 ?rzz113
              case hzz113 => go_simp <;> with_reducible rfl
              try simp only [Act.put, List.setIfInBounds_toArray, List.set_cons_zero, List.set_cons_succ]
              refine li_take (d := 6) (OP := Op.assign (Operand.tmp 54)) (T := 4) (v := ?vzz114) rfl rfl rfl (by rfl) ?hzz114 ?rzz114
              case hzz114 => go_simp <;> with_reducible rfl
              try simp only [Act.put, List.setIfInBounds_toArray, List.set_cons_zero, List.set_cons_succ]
              refine li_nil ?_
              go_wp2
              go_ret
              exact HF.out
    · have HF := hide (show Went D J Jx W (c + ls.length) (.returned (.bool false)) v2 from ⟨OW.out.next o2, .inr ⟨rfl, x2⟩⟩)
      refine ⟨_, rfl, ?_⟩
      try simp only [Act.put, List.setIfInBounds_toArray, List.set_cons_zero, List.set_cons_succ]
      refine li_take (d := 28) (OP := Op.move (Operand.tmp 27)) (T := 4) (v := ?vzz115) rfl rfl rfl (by rfl) ?hzz115 ?rzz115
      case hzz115 => go_simp <;> with_reducible rfl
      try simp only [Act.put, List.setIfInBounds_toArray, List.set_cons_zero, List.set_cons_succ]
      refine li_pass (d := 29) rfl (by rfl) ?_
      try simp only [Act.put, List.setIfInBounds_toArray, List.set_cons_zero, List.set_cons_succ]
      refine li_pass (d := 30) rfl (by rfl) ?_
      try simp only [Act.put, List.setIfInBounds_toArray, List.set_cons_zero, List.set_cons_succ]
      refine li_pass (d := 31) rfl (by rfl) ?_
      try simp only [Act.put, List.setIfInBounds_toArray, List.set_cons_zero, List.set_cons_succ]
      refine li_pass (d := 32) rfl (by rfl) ?_
      try simp only [Act.put, List.setIfInBounds_toArray, List.set_cons_zero, List.set_cons_succ]
      refine li_pass (d := 33) rfl (by rfl) ?_
      try simp only [Act.put, List.setIfInBounds_toArray, List.set_cons_zero, List.set_cons_succ]
      refine li_pass (d := 34) rfl (by rfl) ?_
      try simp only [Act.put, List.setIfInBounds_toArray, List.set_cons_zero, List.set_cons_succ]
      refine li_pass (d := 35) rfl (by rfl) ?_
      try simp only [Act.put, List.setIfInBounds_toArray, List.set_cons_zero, List.set_cons_succ]
      refine li_pass (d := 36) rfl (by rfl) ?_
      try simp only [Act.put, List.setIfInBounds_toArray, List.set_cons_zero, List.set_cons_succ]
      refine li_pass (d := 37) rfl (by rfl) ?_
      try simp only [Act.put, List.setIfInBounds_toArray, List.set_cons_zero, List.set_cons_succ]
      refine li_pass (d := 38) rfl (by rfl) ?_
      try simp only [Act.put, List.setIfInBounds_toArray, List.set_cons_zero, List.set_cons_succ]
      refine li_pass (d := 39) rfl (by rfl) ?_
      try simp only [Act.put, List.setIfInBounds_toArray, List.set_cons_zero, List.set_cons_succ]
      refine li_pass (d := 40) rfl (by rfl) ?_
      try simp only [Act.put, List.setIfInBounds_toArray, List.set_cons_zero, List.set_cons_succ]
      refine li_pass (d := 41) rfl (by rfl) ?_
      try simp only [Act.put, List.setIfInBounds_toArray, List.set_cons_zero, List.set_cons_succ]
      refine li_pass (d := 42) rfl (by rfl) ?_
      try simp only [Act.put, List.setIfInBounds_toArray, List.set_cons_zero, List.set_cons_succ]
      refine li_pass (d := 43) rfl (by rfl) ?_
      try simp only [Act.put, List.setIfInBounds_toArray, List.set_cons_zero, List.set_cons_succ]
      refine li_pass (d := 44) rfl (by rfl) ?_
      try simp only [Act.put, List.setIfInBounds_toArray, List.set_cons_zero, List.set_cons_succ]
      refine li_pass (d := 45) rfl (by rfl) ?_
      try simp only [Act.put, List.setIfInBounds_toArray, List.set_cons_zero, List.set_cons_succ]
      refine li_take (d := 46) (OP := Op.pick (Operand.tmp 28) (Operand.tmp 45) (Operand.const (Value.bool false))) (T := 4) (v := ?vzz116) rfl rfl rfl (by rfl) ?hzz116 ?rzz116
      case hzz116 => go_simp <;> with_reducible rfl
      try simp only [Act.put, List.setIfInBounds_toArray, List.set_cons_zero, List.set_cons_succ]
      refine li_take (d := 47) (OP := Op.move (Operand.tmp 46)) (T := 4) (v := ?vzz117) rfl rfl rfl (by rfl) ?hzz117 ?rzz117
      case hzz117 => go_simp <;> with_reducible rfl
      try simp only [Act.put, List.setIfInBounds_toArray, List.set_cons_zero, List.set_cons_succ]
      refine li_pass (d := 48) rfl (by rfl) ?_
      try simp only [Act.put, List.setIfInBounds_toArray, List.set_cons_zero, List.set_cons_succ]
      refine li_pass (d := 49) rfl (by rfl) ?_
      try simp only [Act.put, List.setIfInBounds_toArray, List.set_cons_zero, List.set_cons_succ]
      refine li_pass (d := 50) rfl (by rfl) ?_
      try simp only [Act.put, List.setIfInBounds_toArray, List.set_cons_zero, List.set_cons_succ]
      refine li_pass (d := 51) rfl (by rfl) ?_
      try simp only [Act.put, List.setIfInBounds_toArray, List.set_cons_zero, List.set_cons_succ]
      refine li_pass (d := 52) rfl (by rfl) ?_
      try simp only [Act.put, List.setIfInBounds_toArray, List.set_cons_zero, List.set_cons_succ]
      refine li_pass (d := 53) rfl (by rfl) ?_
      try simp only [Act.put, List.setIfInBounds_toArray, List.set_cons_zero, List.set_cons_succ]
      refine li_take (d := 54) (OP := Op.pick (Operand.tmp 47) (Operand.tmp 53) (Operand.const (Value.bool false))) (T := 4) (v := ?vzz118) rfl rfl rfl (by rfl) ?hzz118 ?rzz118
      case hzz118 => go_simp <;> with_reducible rfl
      try simp only [Act.put, List.setIfInBounds_toArray, List.set_cons_zero, List.set_cons_succ]
      refine li_take (d := 6) (OP := Op.assign (Operand.tmp 54)) (T := 4) (v := ?vzz119) rfl rfl rfl (by rfl) ?hzz119 ?rzz119
      case hzz119 => go_simp <;> with_reducible rfl
      try simp only [Act.put, List.setIfInBounds_toArray, List.set_cons_zero, List.set_cons_succ]
      refine li_nil ?_
      go_wp2
      go_ret
      exact HF.out
end Go.Proofs.Ytckkoigghkgfdaa
