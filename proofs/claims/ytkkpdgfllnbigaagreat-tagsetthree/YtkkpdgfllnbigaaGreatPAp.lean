/-
  walk: TREES THAT LIE APART (the plain part).
-/
import Derived.Test.YtkkpdgfllnbigaaGreatMg14
import Derived.Test.YtkkpdgfllnbigaaGreatMg15
namespace Go.Proofs.YtkkpdgfllnbigaaGreat.Pm
open Go.RowKit Go.Shelf
set_option linter.unusedSimpArgs false

/-- Two trees share no node. -/
def Apart (o a : T) : Prop := ∀ q, o.atB q → a.atB q → False
theorem Apart.self {o : T} (h : Apart o o) : o = .nil := by
  cases o with
  | nil => rfl
  | node p k v l r => exact (h p (.inl rfl) (.inl rfl)).elim
theorem In.atB {W : World} : ∀ {t : T}, In W t → ∀ q, t.atB q → q < W.heap.size
  | .nil, _, _, h => h.elim
  | .node _ _ _ _ _, ⟨h1, h2, h3⟩, q, h => by
    rcases h with rfl | h | h
    · exact (gI h1).1
    · exact In.atB h2 q h
    · exact In.atB h3 q h
theorem Apart.of_over {W : World} {o a : T} (h : In W o) (k : a.over W.heap.size) : Apart o a := fun q ho ha => by
  have h1 := In.atB h q ho
  have h2 := k q ha
  omega
theorem Apart.symm {o a : T} (h : Apart o a) : Apart a o := fun q x y => h q y x
theorem Settled.atB {B : Nat} {k v l r t} (h : Settled B k v l r t) (q : Nat) (hq : t.atB q) : l.atB q ∨ r.atB q ∨ B ≤ q := by
  cases h with
  | plain h1 h2 hp =>
    rcases hq with rfl | h | h
    · exact .inr (.inr hp)
    · exact .inl h
    · exact .inr (.inl h)
  | rightIn h1 h2 hp hq' hs =>
    rcases hq with rfl | (rfl | h | h) | (rfl | h | h)
    · exact .inr (.inr hp)
    · exact .inr (.inr hq')
    · exact .inl (.inr (.inl h))
    · exact .inl (.inr (.inr (.inr (.inl h))))
    · exact .inr (.inr hs)
    · exact .inl (.inr (.inr (.inr (.inr h))))
    · exact .inr (.inl h)
  | rightOut h1 h2 hp hq' =>
    rcases hq with rfl | h | (rfl | h | h)
    · exact .inr (.inr hp)
    · exact .inl (.inr (.inl h))
    · exact .inr (.inr hq')
    · exact .inl (.inr (.inr h))
    · exact .inr (.inl h)
  | leftIn h1 h2 hp hq' hs =>
    rcases hq with rfl | (rfl | h | h) | (rfl | h | h)
    · exact .inr (.inr hp)
    · exact .inr (.inr hq')
    · exact .inl h
    · exact .inr (.inl (.inr (.inl (.inr (.inl h)))))
    · exact .inr (.inr hs)
    · exact .inr (.inl (.inr (.inl (.inr (.inr h)))))
    · exact .inr (.inl (.inr (.inr h)))
  | leftOut h1 h2 hp hq' =>
    rcases hq with rfl | (rfl | h | h) | h
    · exact .inr (.inr hp)
    · exact .inr (.inr hq')
    · exact .inl h
    · exact .inr (.inl (.inr (.inl h)))
    · exact .inr (.inl (.inr (.inr h)))
theorem Joined.atB {B : Nat} {k v l r t} (h : Joined B k v l r t) : ∀ q, t.atB q → l.atB q ∨ r.atB q ∨ B ≤ q := by
  induction h with
  | mid h1 h2 hp =>
    intro q hq
    rcases hq with rfl | h | h
    · exact .inr (.inr hp)
    · exact .inl h
    · exact .inr (.inl h)
  | left h1 hm hs ih =>
    intro q hq
    rcases hs.atB q hq with h | h | h
    · exact .inl (.inr (.inl h))
    · rcases ih q h with h | h | h
      · exact .inl (.inr (.inr h))
      · exact .inr (.inl h)
      · exact .inr (.inr h)
    · exact .inr (.inr h)
  | right h1 hm hs ih =>
    intro q hq
    rcases hs.atB q hq with h | h | h
    · rcases ih q h with h | h | h
      · exact .inl h
      · exact .inr (.inl (.inr (.inl h)))
      · exact .inr (.inr h)
    · exact .inr (.inl (.inr (.inr h)))
    · exact .inr (.inr h)
theorem Joins.atB {B p k v nl nr l r t} (h : Joins B p k v nl nr l r t) (q : Nat) (hq : t.atB q) : p = q ∨ l.atB q ∨ r.atB q ∨ B ≤ q := by
  rcases h with ⟨rfl, rfl, rfl⟩ | ⟨_, h⟩
  · rcases hq with h | h | h
    · exact .inl h
    · exact .inr (.inl h)
    · exact .inr (.inr (.inl h))
  · exact .inr (h.atB q hq)
theorem Splits.atB {B k t a f b} (h : Splits B k t a f b) : ∀ q, a.atB q ∨ b.atB q → t.atB q ∨ B ≤ q := by
  induction h with
  | none => intro q hq; rcases hq with h | h <;> exact h.elim
  | left hc _ hj ih =>
    intro q hq
    rcases hq with h | h
    · rcases ih q (.inl h) with h | h
      · exact .inl (.inr (.inl h))
      · exact .inr h
    · rcases hj.atB q h with h | h | h | h
      · exact .inl (.inl h)
      · rcases ih q (.inr h) with h | h
        · exact .inl (.inr (.inl h))
        · exact .inr h
      · exact .inl (.inr (.inr h))
      · exact .inr h
  | right hc _ hj ih =>
    intro q hq
    rcases hq with h | h
    · rcases hj.atB q h with h | h | h | h
      · exact .inl (.inl h)
      · exact .inl (.inr (.inl h))
      · rcases ih q (.inl h) with h | h
        · exact .inl (.inr (.inr h))
        · exact .inr h
      · exact .inr h
    · rcases ih q (.inr h) with h | h
      · exact .inl (.inr (.inr h))
      · exact .inr h
  | same hc =>
    intro q hq
    rcases hq with h | h
    · exact .inl (.inr (.inl h))
    · exact .inl (.inr (.inr h))
/-- What is cut of two that lie apart lies apart: the second was cut later. -/
theorem Apart.cut {W W1 : World} {B0 B1 : Nat} {K : ByteArray} {o a o1 f o2 a1 g a2 : T} (h : Apart o a) (so : Splits B0 K o o1 f o2) (sa : Splits B1 K a a1 g a2) (ia : In W a) (h0 : W.heap.size ≤ B0) (i1 : In W1 o1) (i2 : In W1 o2) (h1 : W1.heap.size ≤ B1) : Apart o1 a1 ∧ Apart o2 a2 := by
  have key : ∀ q, (o1.atB q ∨ o2.atB q) → (a1.atB q ∨ a2.atB q) → False := fun q ho ha => by
    have hlt : q < W1.heap.size := ho.elim (In.atB i1 q) (In.atB i2 q)
    rcases sa.atB q ha with h2 | h2
    · rcases so.atB q ho with h3 | h3
      · exact h q h3 h2
      · have := In.atB ia q h2; omega
    · omega
  exact ⟨fun q x y => key q (.inl x) (.inl y), fun q x y => key q (.inr x) (.inr y)⟩
/-- What a rule must answer of trees that lie apart. -/
structure FairA (V : ByteArray → ByteArray × Bool → Prop) (R : ByteArray → ByteArray × Bool → ByteArray × Bool → ByteArray × Bool → ByteArray × Bool) : Prop where
  none : ∀ k, V k (⟨#[]⟩, false)
  both : ∀ k p q, V k p → V k q → R k p q q = q
  left0 : ∀ k r, V k r → R k (⟨#[]⟩, false) (⟨#[]⟩, false) r = r
  right : ∀ k p q, V k p → V k q → R k p q p = q
  norm : ∀ k p q r, (R k p q r).2 = false → R k p q r = (⟨#[]⟩, false)
/-- Three maps run together by a rule, the base apart from the first side. -/
inductive RunsA (B : Nat) (R : ByteArray → ByteArray × Bool → ByteArray × Bool → ByteArray × Bool → ByteArray × Bool) : T → T → T → T → List ByteArray → Prop where
  | same {o a : T} : RunsA B R o a a a []
  | left {b : T} (h : .nil ≠ b) : RunsA B R .nil .nil b b []
  | right {o a : T} (h : a ≠ o) : RunsA B R o a o a []
  | joins {o a b o1 o2 f a1 a2 g b1 b2 h t1 t2 t : T} {ks1 ks2 : List ByteArray} {v : ByteArray} (n1 : a ≠ b) (n2 : o ≠ a) (n3 : o ≠ b) (so : Splits B (topK a b) o o1 f o2) (sa : Splits B (topK a b) a a1 g a2) (sb : Splits B (topK a b) b b1 h b2)
      (r1 : RunsA B R o1 a1 b1 t1 ks1) (r2 : RunsA B R o2 a2 b2 t2 ks2) (hr : R (topK a b) f.part g.part h.part = (v, true)) (hj : Joined B (topK a b) v t1 t2 t) : RunsA B R o a b t (ks1 ++ ks2 ++ [topK a b])
  | closes {o a b o1 o2 f a1 a2 g b1 b2 h t1 t2 t : T} {ks1 ks2 : List ByteArray} {v : ByteArray} (n1 : a ≠ b) (n2 : o ≠ a) (n3 : o ≠ b) (so : Splits B (topK a b) o o1 f o2) (sa : Splits B (topK a b) a a1 g a2) (sb : Splits B (topK a b) b b1 h b2)
      (r1 : RunsA B R o1 a1 b1 t1 ks1) (r2 : RunsA B R o2 a2 b2 t2 ks2) (hr : R (topK a b) f.part g.part h.part = (v, false)) (hj : Closes B t1 t2 t) (hb : t1.bal → t2.bal → t.bal) : RunsA B R o a b t (ks1 ++ ks2 ++ [topK a b])
theorem RunsA.says {B : Nat} {V : ByteArray → ByteArray × Bool → Prop} {R : ByteArray → ByteArray × Bool → ByteArray × Bool → ByteArray × Bool → ByteArray × Bool} (hR : FairA V R) {o a b t : T} {ks : List ByteArray} (h : RunsA B R o a b t ks) :
    Srt o.list → Srt a.list → Srt b.list → o.bal → a.bal → b.bal → (∀ k, V k (look k o.list)) → (∀ k, V k (look k a.list)) → (∀ k, V k (look k b.list)) → RunSays R o a b t ks := by
  induction h with
  | @same o a =>
    intro so sa _ _ ba _ vo va _
    exact ⟨ba, sa, fun k => (hR.both k _ _ (vo k) (va k)).symm, fun y hy => .inl ⟨y, hy, rfl⟩, by simp, List.nodup_nil, by simp, by omega⟩
  | @left b hne =>
    intro so _ sb _ _ bb vo _ vb
    exact ⟨bb, sb, fun k => (hR.left0 k _ (vb k)).symm, fun y hy => .inr ⟨y, hy, rfl⟩, by simp, List.nodup_nil, by simp, by omega⟩
  | @right o a hne =>
    intro so sa _ _ ba _ vo va _
    exact ⟨ba, sa, fun k => (hR.right k _ _ (vo k) (va k)).symm, fun y hy => .inl ⟨y, hy, rfl⟩, by simp, List.nodup_nil, by simp, by omega⟩
  | @joins o a b o1 o2 f a1 a2 g b1 b2 h t1 t2 t ks1 ks2 v n1 n2 n3 so sa sb r1 r2 hr hj ih1 ih2 =>
    intro So Sa Sb Bo Ba Bb Vo Va Vb
    obtain ⟨vo1, vo2⟩ := (so.sides So).valid hR.none Vo
    obtain ⟨va1, va2⟩ := (sa.sides Sa).valid hR.none Va
    obtain ⟨vb1, vb2⟩ := (sb.sides Sb).valid hR.none Vb
    have i1 := ih1 (so.sides So).asrt (sa.sides Sa).asrt (sb.sides Sb).asrt (so.bal Bo).1 (sa.bal Ba).1 (sb.bal Bb).1 vo1 va1 vb1
    have i2 := ih2 (so.sides So).bsrt (sa.sides Sa).bsrt (sb.sides Sb).bsrt (so.bal Bo).2 (sa.bal Ba).2 (sb.bal Bb).2 vo2 va2 vb2
    have m := Runs.mid n1 so sa sb So Sa Sb i1 i2
    have hl : t.list = t1.list ++ (topK a b, v) :: t2.list := hj.list
    obtain ⟨q1, q2, q3⟩ := look_mid (v := v) m.less m.more
    refine ⟨(hj.says m.b1 m.b2).bal, by rw [hl]; exact Srt.app.2 ⟨m.s1, m.s2, m.less, m.more⟩, fun k => ?_, fun y hy => ?_, m.asked, m.once, m.few, ?_⟩
    · rw [hl]
      rcases cmp_three k (topK a b) with e | e | e
      · rw [q2 k e, m.lookL k e]
      · rw [e, q1, ← m.lookM, hr]
      · rw [q3 k e, m.lookR k e]
    · rw [hl] at hy
      rcases List.mem_append.1 hy with hy | hy
      · exact m.keys1 y hy
      · rcases List.mem_cons.1 hy with rfl | hy
        · exact m.key
        · exact m.keys2 y hy
    · have := congrArg List.length hl
      simp only [List.length_append, List.length_cons, T.n_eq] at this
      have := m.tn
      omega
  | @closes o a b o1 o2 f a1 a2 g b1 b2 h t1 t2 t ks1 ks2 v n1 n2 n3 so sa sb r1 r2 hr hj hb ih1 ih2 =>
    intro So Sa Sb Bo Ba Bb Vo Va Vb
    obtain ⟨vo1, vo2⟩ := (so.sides So).valid hR.none Vo
    obtain ⟨va1, va2⟩ := (sa.sides Sa).valid hR.none Va
    obtain ⟨vb1, vb2⟩ := (sb.sides Sb).valid hR.none Vb
    have i1 := ih1 (so.sides So).asrt (sa.sides Sa).asrt (sb.sides Sb).asrt (so.bal Bo).1 (sa.bal Ba).1 (sb.bal Bb).1 vo1 va1 vb1
    have i2 := ih2 (so.sides So).bsrt (sa.sides Sa).bsrt (sb.sides Sb).bsrt (so.bal Bo).2 (sa.bal Ba).2 (sb.bal Bb).2 vo2 va2 vb2
    have m := Runs.mid n1 so sa sb So Sa Sb i1 i2
    have hl : t.list = t1.list ++ t2.list := hj.list m.s2
    obtain ⟨q1, q2, q3⟩ := look_two m.less m.more
    refine ⟨hb m.b1 m.b2, ?_, fun k => ?_, fun y hy => ?_, m.asked, m.once, m.few, ?_⟩
    · rw [hl]
      exact List.pairwise_append.2 ⟨m.s1, m.s2, fun x hx y hy => ord_B.trans _ _ _ (m.less x hx) (m.more y hy)⟩
    · rw [hl]
      rcases cmp_three k (topK a b) with e | e | e
      · rw [q2 k e, m.lookL k e]
      · rw [e, q1, ← m.lookM]
        exact (hR.norm _ _ _ _ (by rw [hr])).symm
      · rw [q3 k e, m.lookR k e]
    · rw [hl] at hy
      rcases List.mem_append.1 hy with hy | hy
      · exact m.keys1 y hy
      · exact m.keys2 y hy
    · have := congrArg List.length hl
      simp only [List.length_append, T.n_eq] at this
      have := m.tn
      omega
theorem RunsA.mono {B B' : Nat} {R : ByteArray → ByteArray × Bool → ByteArray × Bool → ByteArray × Bool → ByteArray × Bool} {o a b t : T} {ks : List ByteArray} (h : RunsA B' R o a b t ks) (hB : B ≤ B') : RunsA B R o a b t ks := by
  induction h with
  | same => exact .same
  | left h => exact .left h
  | right h => exact .right h
  | joins n1 n2 n3 so sa sb _ _ hr hj ih1 ih2 => exact .joins n1 n2 n3 (so.mono hB) (sa.mono hB) (sb.mono hB) ih1 ih2 hr (hj.mono hB)
  | closes n1 n2 n3 so sa sb _ _ hr hj hb ih1 ih2 => exact .closes n1 n2 n3 (so.mono hB) (sa.mono hB) (sb.mono hB) ih1 ih2 hr (hj.mono hB) hb
/-- What is cut of one, beside what was cut of another before it. -/
def CutA (B : Nat) (K : ByteArray) (o a : T) (v2 v : Value) (W : World) : Prop := ∃ o1 f o2 a1 g a2, v2 = cv o1 o2 f ∧ v = cv a1 a2 g ∧ Splits B K o o1 f o2 ∧ In W o1 ∧ In W o2 ∧ Splits B K a a1 g a2 ∧ In W a1 ∧ In W a2 ∧ Apart o1 a1 ∧ Apart o2 a2
theorem CutA.below {B : Nat} {K : ByteArray} {o a : T} {v2 v : Value} {W W' : World} (h : CutA B K o a v2 v W) (hb : Below W.heap.size W W') : CutA B K o a v2 v W' := by
  obtain ⟨o1, f, o2, a1, g, a2, e1, e2, so, i1, i2, sa, i3, i4, p1, p2⟩ := h
  exact ⟨o1, f, o2, a1, g, a2, e1, e2, so, In.below hb i1, In.below hb i2, sa, In.below hb i3, In.below hb i4, p1, p2⟩
/-- What is cut of the first. -/
def CutO (m : Nat) (K : ByteArray) (o : T) (v : Value) (W : World) : Prop := ∃ o1 f o2 B0 W1, v = cv o1 o2 f ∧ Splits B0 K o o1 f o2 ∧ m ≤ B0 ∧ In W1 o1 ∧ In W1 o2 ∧ Below W1.heap.size W1 W
theorem CutO.below {m : Nat} {K : ByteArray} {o : T} {v : Value} {W W' : World} (h : CutO m K o v W) (hb : Below W.heap.size W W') : CutO m K o v W' := by
  obtain ⟨o1, f, o2, B0, W1, e, so, hm, i1, i2, hW⟩ := h
  exact ⟨o1, f, o2, B0, W1, e, so, hm, i1, i2, hW.trans (hb.mono hW.size)⟩
end Go.Proofs.YtkkpdgfllnbigaaGreat.Pm
