/-
  What Put does to a list: order, members, length; what Get finds.
  walk: TREES THAT LIE APART (the plain part).
  walk: A REGION OF THE WALK'S CLOSURE: three calls in a row, the second knowing what the first answered.
  walk: THE WALK'S CLOSURE, the base apart from the first side.
  walk: Run, the base apart from the first side.
  walk: Elements, the base apart from the first side, whatever the values are.
  Three maps of elements run together, against the document's lists: plainly.
  tagset: Insert (45).
-/
import Derived.Test.YtkkpdgfllnbigaaGreatDoorMg12
import Derived.Test.YtkkpdgfllnbigaaGreatDoorMg10
import Derived.Test.YtkkpdgfllnbigaaGreatDoorMg17
import Derived.Test.YtkkpdgfllnbigaaGreatDoorMg13
namespace Go.Proofs.YtkkpdgfllnbigaaGreatDoor.Pm
open Go.RowKit Go.Shelf
set_option linter.unusedSimpArgs false

theorem ins_lessP {x : (ByteArray × ByteArray)} {k : ByteArray} {v : ByteArray} {l : List (ByteArray × ByteArray)} (h : cmpB x.1 k = -1) : ins k v (x :: l) = x :: ins k v l := by
  have hp : pos k (x :: l) = pos k l + 1 := by simp [pos, h]
  have hh : has k (x :: l) = has k l := by unfold has; rw [hp]; simp
  unfold ins
  rw [hp, hh]
  split <;> simp
theorem ins_memP {k : ByteArray} {v : ByteArray} {l : List (ByteArray × ByteArray)} {y : (ByteArray × ByteArray)} (h : y ∈ ins k v l) : y = (k, v) ∨ y ∈ l := by
  unfold ins at h
  rcases List.mem_append.1 h with h | h
  · exact .inr (List.mem_of_mem_take h)
  · rcases List.mem_cons.1 h with h | h
    · exact .inl h
    · exact .inr (List.mem_of_mem_drop h)
theorem srt_insP {l : List (ByteArray × ByteArray)} (h : Srt l) (k : ByteArray) (v : ByteArray) : Srt (ins k v l) := by
  induction l with
  | nil => simp [ins, pos, has, Srt]
  | cons x l ih =>
    obtain ⟨h1, h2⟩ := List.pairwise_cons.1 h
    by_cases hc : cmpB x.1 k = -1
    · rw [ins_lessP hc]
      refine List.Pairwise.cons (fun y hy => ?_) (ih h2)
      rcases ins_memP hy with rfl | hy
      · exact hc
      · exact h1 y hy
    · have hp : pos k (x :: l) = 0 := by simp [pos, hc]
      have hh : has k (x :: l) = decide (x.1 = k) := by unfold has; rw [hp]; rfl
      unfold ins
      rw [hp, hh]
      by_cases he : x.1 = k
      · simp only [he, decide_true, if_true, List.take_zero, List.nil_append, Nat.zero_add, List.drop_succ_cons, List.drop_zero]
        exact List.Pairwise.cons (fun y hy => by have := h1 y hy; rw [he] at this; exact this) h2
      · simp only [he, decide_false, Bool.false_eq_true, if_false, List.take_zero, List.nil_append, List.drop_zero]
        have hk : cmpB k x.1 = -1 := by
          have h3 := ord_B.range x.1 k
          have h4 := ord_B.anti k x.1
          rcases h3 with h3 | h3 | h3
          · exact (hc h3).elim
          · exact (he (ord_B.eq _ _ h3)).elim
          · have := ord_B.anti x.1 k; omega
        refine List.Pairwise.cons (fun y hy => ?_) h
        rcases List.mem_cons.1 hy with rfl | hy
        · exact hk
        · exact ord_B.trans _ _ _ hk (h1 y hy)
theorem mem_ins {l : List (ByteArray × ByteArray)} (h : Srt l) (k v : ByteArray) (x : ByteArray × ByteArray) : x ∈ ins k v l ↔ x = (k, v) ∨ (x ∈ l ∧ x.1 ≠ k) := by
  induction l with
  | nil => simp [ins, pos, has]
  | cons y l ih =>
    obtain ⟨h1, h2⟩ := List.pairwise_cons.1 h
    by_cases hc : cmpB y.1 k = -1
    · rw [ins_lessP hc, List.mem_cons, List.mem_cons, ih h2]
      have hy := cmp_ne hc
      constructor
      · rintro (rfl | rfl | ⟨h3, h4⟩)
        · exact .inr ⟨.inl rfl, hy⟩
        · exact .inl rfl
        · exact .inr ⟨.inr h3, h4⟩
      · rintro (rfl | ⟨rfl | h3, h4⟩)
        · exact .inr (.inl rfl)
        · exact .inl rfl
        · exact .inr (.inr ⟨h3, h4⟩)
    · have hp : pos k (y :: l) = 0 := by simp [pos, hc]
      have hh : has k (y :: l) = decide (y.1 = k) := by unfold has; rw [hp]; rfl
      unfold ins
      rw [hp, hh]
      by_cases he : y.1 = k
      · simp only [he, decide_true, if_true, List.take_zero, List.nil_append, Nat.zero_add, List.drop_succ_cons, List.drop_zero, List.mem_cons]
        constructor
        · rintro (h3 | h3)
          · exact .inl h3
          · exact .inr ⟨.inr h3, fun e => by have := h1 x h3; rw [he, e, ord_B.refl] at this; exact absurd this (by decide)⟩
        · rintro (h3 | ⟨rfl | h3, h4⟩)
          · exact .inl h3
          · exact (h4 he).elim
          · exact .inr h3
      · simp only [he, decide_false, Bool.false_eq_true, if_false, List.take_zero, List.nil_append, List.drop_zero, List.mem_cons]
        have hk : cmpB k y.1 = -1 := by
          rcases cmp_three y.1 k with e | e | e
          · exact (hc e).elim
          · exact (he e).elim
          · exact e
        constructor
        · rintro (h3 | h3)
          · exact .inl h3
          · refine .inr ⟨h3, fun e => ?_⟩
            rcases h3 with rfl | h3
            · exact he e
            · have := ord_B.trans _ _ _ hk (h1 x h3)
              rw [e, ord_B.refl] at this
              exact absurd this (by decide)
        · rintro (h3 | ⟨h3, -⟩)
          · exact .inl h3
          · exact .inr h3
theorem ins_len (k v : ByteArray) (l : List (ByteArray × ByteArray)) : (ins k v l).length ≤ l.length + 1 := by
  unfold ins
  simp only [List.length_append, List.length_take, List.length_cons, List.length_drop]
  have := pos_le k l
  split <;> omega
end Go.Proofs.YtkkpdgfllnbigaaGreatDoor.Pm
namespace Go.Proofs.YtkkpdgfllnbigaaGreatDoor
open Go.RowKit Go.Shelf
/-- The map has just these keys. -/
def KeysOf (t : Pm.T) (l : List Kv) : Prop := ∀ k, (∃ v, (k, v) ∈ t.list) ↔ k ∈ l.map Prod.fst
/-- One Put more. -/
theorem Mg.put {w w' : World} {t t' : Pm.T} {k v : ByteArray} (h : Mg w t) (hp : Pm.Puts w.heap.size k v t t') (hi : Pm.In w' t') (hn : t.n < 400) (hk : k.size ≤ 9223372036854775807) : Mg w' t' := by
  have hl := hp.list h.srt
  refine ⟨hi, ?_, (hp.says h.srt h.bal h.inn.underP).bal, ?_, ?_⟩
  · rw [hl]; exact Pm.srt_insP h.srt k v
  · rw [← Pm.T.n_eq, hl]
    have := Pm.ins_len k v t.list
    rw [Pm.T.n_eq] at this
    omega
  · intro x hx
    rw [hl, Pm.mem_ins h.srt] at hx
    rcases hx with rfl | ⟨hx, -⟩
    · exact hk
    · exact h.key x hx
theorem KeysOf.put {w : World} {t t' : Pm.T} {l : List Kv} {k v : ByteArray} {B : Nat} (h : KeysOf t l) (hm : Mg w t) (hp : Pm.Puts B k v t t') : KeysOf t' (l ++ [(k, v)]) := fun j => by
  rw [hp.list hm.srt, List.map_append, List.mem_append, List.map_singleton, List.mem_singleton, ← h j]
  constructor
  · rintro ⟨u, hu⟩
    rw [Pm.mem_ins hm.srt] at hu
    rcases hu with hu | ⟨hu, -⟩
    · cases hu; exact .inr rfl
    · exact .inl ⟨u, hu⟩
  · rintro (⟨u, hu⟩ | rfl)
    · by_cases e : j = k
      · exact ⟨v, (Pm.mem_ins hm.srt _ _ _).2 (.inl (by rw [e]))⟩
      · exact ⟨u, (Pm.mem_ins hm.srt _ _ _).2 (.inr ⟨hu, e⟩)⟩
    · exact ⟨v, (Pm.mem_ins hm.srt _ _ _).2 (.inl rfl)⟩
end Go.Proofs.YtkkpdgfllnbigaaGreatDoor
namespace Go.Proofs.YtkkpdgfllnbigaaGreatDoor.Pm
open Go.RowKit Go.Shelf
set_option linter.unusedSimpArgs false

/-- Two trees share no node. -/
def Apart (o a : T) : Prop := ∀ q, o.atB q → a.atB q → False
theorem In.atB {W : World} : ∀ {t : T}, In W t → ∀ q, t.atB q → q < W.heap.size
  | .nil, _, _, h => h.elim
  | .node _ _ _ _ _, ⟨h1, h2, h3⟩, q, h => by
    rcases h with rfl | h | h
    · exact (gI h1).1
    · exact In.atB h2 q h
    · exact In.atB h3 q h
theorem Apart.symm {o a : T} (h : Apart o a) : Apart a o := fun q x y => h q y x
theorem Settled.atB {B : Nat} {k v l r t} (h : Settled B k v l r t) (q : Nat) (hq : t.atB q) : l.atB q ∨ r.atB q ∨ B ≤ q := by
  cases h with
  | plain h1 h2 hp =>
    rcases hq with rfl | h | h
    · exact .inr (.inr hp)
    · exact .inl h
    · exact .inr (.inl h)
  | rightIn h1 h2 hp hq' hs =>
    rcases hq with rfl | (rfl | h | h) | (rfl | h | h)
    · exact .inr (.inr hp)
    · exact .inr (.inr hq')
    · exact .inl (.inr (.inl h))
    · exact .inl (.inr (.inr (.inr (.inl h))))
    · exact .inr (.inr hs)
    · exact .inl (.inr (.inr (.inr (.inr h))))
    · exact .inr (.inl h)
  | rightOut h1 h2 hp hq' =>
    rcases hq with rfl | h | (rfl | h | h)
    · exact .inr (.inr hp)
    · exact .inl (.inr (.inl h))
    · exact .inr (.inr hq')
    · exact .inl (.inr (.inr h))
    · exact .inr (.inl h)
  | leftIn h1 h2 hp hq' hs =>
    rcases hq with rfl | (rfl | h | h) | (rfl | h | h)
    · exact .inr (.inr hp)
    · exact .inr (.inr hq')
    · exact .inl h
    · exact .inr (.inl (.inr (.inl (.inr (.inl h)))))
    · exact .inr (.inr hs)
    · exact .inr (.inl (.inr (.inl (.inr (.inr h)))))
    · exact .inr (.inl (.inr (.inr h)))
  | leftOut h1 h2 hp hq' =>
    rcases hq with rfl | (rfl | h | h) | h
    · exact .inr (.inr hp)
    · exact .inr (.inr hq')
    · exact .inl h
    · exact .inr (.inl (.inr (.inl h)))
    · exact .inr (.inl (.inr (.inr h)))
theorem Joined.atB {B : Nat} {k v l r t} (h : Joined B k v l r t) : ∀ q, t.atB q → l.atB q ∨ r.atB q ∨ B ≤ q := by
  induction h with
  | mid h1 h2 hp =>
    intro q hq
    rcases hq with rfl | h | h
    · exact .inr (.inr hp)
    · exact .inl h
    · exact .inr (.inl h)
  | left h1 hm hs ih =>
    intro q hq
    rcases hs.atB q hq with h | h | h
    · exact .inl (.inr (.inl h))
    · rcases ih q h with h | h | h
      · exact .inl (.inr (.inr h))
      · exact .inr (.inl h)
      · exact .inr (.inr h)
    · exact .inr (.inr h)
  | right h1 hm hs ih =>
    intro q hq
    rcases hs.atB q hq with h | h | h
    · rcases ih q h with h | h | h
      · exact .inl h
      · exact .inr (.inl (.inr (.inl h)))
      · exact .inr (.inr h)
    · exact .inr (.inl (.inr (.inr h)))
    · exact .inr (.inr h)
theorem Joins.atB {B p k v nl nr l r t} (h : Joins B p k v nl nr l r t) (q : Nat) (hq : t.atB q) : p = q ∨ l.atB q ∨ r.atB q ∨ B ≤ q := by
  rcases h with ⟨rfl, rfl, rfl⟩ | ⟨_, h⟩
  · rcases hq with h | h | h
    · exact .inl h
    · exact .inr (.inl h)
    · exact .inr (.inr (.inl h))
  · exact .inr (h.atB q hq)
theorem Splits.atB {B k t a f b} (h : Splits B k t a f b) : ∀ q, a.atB q ∨ b.atB q → t.atB q ∨ B ≤ q := by
  induction h with
  | none => intro q hq; rcases hq with h | h <;> exact h.elim
  | left hc _ hj ih =>
    intro q hq
    rcases hq with h | h
    · rcases ih q (.inl h) with h | h
      · exact .inl (.inr (.inl h))
      · exact .inr h
    · rcases hj.atB q h with h | h | h | h
      · exact .inl (.inl h)
      · rcases ih q (.inr h) with h | h
        · exact .inl (.inr (.inl h))
        · exact .inr h
      · exact .inl (.inr (.inr h))
      · exact .inr h
  | right hc _ hj ih =>
    intro q hq
    rcases hq with h | h
    · rcases hj.atB q h with h | h | h | h
      · exact .inl (.inl h)
      · exact .inl (.inr (.inl h))
      · rcases ih q (.inl h) with h | h
        · exact .inl (.inr (.inr h))
        · exact .inr h
      · exact .inr h
    · rcases ih q (.inr h) with h | h
      · exact .inl (.inr (.inr h))
      · exact .inr h
  | same hc =>
    intro q hq
    rcases hq with h | h
    · exact .inl (.inr (.inl h))
    · exact .inl (.inr (.inr h))
/-- What a rule must answer of trees that lie apart. -/
structure FairA (V : ByteArray → ByteArray × Bool → Prop) (R : ByteArray → ByteArray × Bool → ByteArray × Bool → ByteArray × Bool → ByteArray × Bool) : Prop where
  none : ∀ k, V k (⟨#[]⟩, false)
  both : ∀ k p q, V k p → V k q → R k p q q = q
  left0 : ∀ k r, V k r → R k (⟨#[]⟩, false) (⟨#[]⟩, false) r = r
  right : ∀ k p q, V k p → V k q → R k p q p = q
  norm : ∀ k p q r, (R k p q r).2 = false → R k p q r = (⟨#[]⟩, false)
/-- Three maps run together by a rule, the base apart from the first side. -/
inductive RunsA (B : Nat) (R : ByteArray → ByteArray × Bool → ByteArray × Bool → ByteArray × Bool → ByteArray × Bool) : T → T → T → T → List ByteArray → Prop where
  | same {o a : T} : RunsA B R o a a a []
  | left {b : T} (h : .nil ≠ b) : RunsA B R .nil .nil b b []
  | right {o a : T} (h : a ≠ o) : RunsA B R o a o a []
  | joins {o a b o1 o2 f a1 a2 g b1 b2 h t1 t2 t : T} {ks1 ks2 : List ByteArray} {v : ByteArray} (n1 : a ≠ b) (n2 : o ≠ a) (n3 : o ≠ b) (so : Splits B (topK a b) o o1 f o2) (sa : Splits B (topK a b) a a1 g a2) (sb : Splits B (topK a b) b b1 h b2)
      (r1 : RunsA B R o1 a1 b1 t1 ks1) (r2 : RunsA B R o2 a2 b2 t2 ks2) (hr : R (topK a b) f.part g.part h.part = (v, true)) (hj : Joined B (topK a b) v t1 t2 t) : RunsA B R o a b t (ks1 ++ ks2 ++ [topK a b])
  | closes {o a b o1 o2 f a1 a2 g b1 b2 h t1 t2 t : T} {ks1 ks2 : List ByteArray} {v : ByteArray} (n1 : a ≠ b) (n2 : o ≠ a) (n3 : o ≠ b) (so : Splits B (topK a b) o o1 f o2) (sa : Splits B (topK a b) a a1 g a2) (sb : Splits B (topK a b) b b1 h b2)
      (r1 : RunsA B R o1 a1 b1 t1 ks1) (r2 : RunsA B R o2 a2 b2 t2 ks2) (hr : R (topK a b) f.part g.part h.part = (v, false)) (hj : Closes B t1 t2 t) (hb : t1.bal → t2.bal → t.bal) : RunsA B R o a b t (ks1 ++ ks2 ++ [topK a b])
theorem RunsA.says {B : Nat} {V : ByteArray → ByteArray × Bool → Prop} {R : ByteArray → ByteArray × Bool → ByteArray × Bool → ByteArray × Bool → ByteArray × Bool} (hR : FairA V R) {o a b t : T} {ks : List ByteArray} (h : RunsA B R o a b t ks) :
    Srt o.list → Srt a.list → Srt b.list → o.bal → a.bal → b.bal → (∀ k, V k (look k o.list)) → (∀ k, V k (look k a.list)) → (∀ k, V k (look k b.list)) → RunSays R o a b t ks := by
  induction h with
  | @same o a =>
    intro so sa _ _ ba _ vo va _
    exact ⟨ba, sa, fun k => (hR.both k _ _ (vo k) (va k)).symm, fun y hy => .inl ⟨y, hy, rfl⟩, by simp, List.nodup_nil, by simp, by omega⟩
  | @left b hne =>
    intro so _ sb _ _ bb vo _ vb
    exact ⟨bb, sb, fun k => (hR.left0 k _ (vb k)).symm, fun y hy => .inr ⟨y, hy, rfl⟩, by simp, List.nodup_nil, by simp, by omega⟩
  | @right o a hne =>
    intro so sa _ _ ba _ vo va _
    exact ⟨ba, sa, fun k => (hR.right k _ _ (vo k) (va k)).symm, fun y hy => .inl ⟨y, hy, rfl⟩, by simp, List.nodup_nil, by simp, by omega⟩
  | @joins o a b o1 o2 f a1 a2 g b1 b2 h t1 t2 t ks1 ks2 v n1 n2 n3 so sa sb r1 r2 hr hj ih1 ih2 =>
    intro So Sa Sb Bo Ba Bb Vo Va Vb
    obtain ⟨vo1, vo2⟩ := (so.sides So).valid hR.none Vo
    obtain ⟨va1, va2⟩ := (sa.sides Sa).valid hR.none Va
    obtain ⟨vb1, vb2⟩ := (sb.sides Sb).valid hR.none Vb
    have i1 := ih1 (so.sides So).asrt (sa.sides Sa).asrt (sb.sides Sb).asrt (so.bal Bo).1 (sa.bal Ba).1 (sb.bal Bb).1 vo1 va1 vb1
    have i2 := ih2 (so.sides So).bsrt (sa.sides Sa).bsrt (sb.sides Sb).bsrt (so.bal Bo).2 (sa.bal Ba).2 (sb.bal Bb).2 vo2 va2 vb2
    have m := Runs.mid n1 so sa sb So Sa Sb i1 i2
    have hl : t.list = t1.list ++ (topK a b, v) :: t2.list := hj.list
    obtain ⟨q1, q2, q3⟩ := look_mid (v := v) m.less m.more
    refine ⟨(hj.says m.b1 m.b2).bal, by rw [hl]; exact Srt.app.2 ⟨m.s1, m.s2, m.less, m.more⟩, fun k => ?_, fun y hy => ?_, m.asked, m.once, m.few, ?_⟩
    · rw [hl]
      rcases cmp_three k (topK a b) with e | e | e
      · rw [q2 k e, m.lookL k e]
      · rw [e, q1, ← m.lookM, hr]
      · rw [q3 k e, m.lookR k e]
    · rw [hl] at hy
      rcases List.mem_append.1 hy with hy | hy
      · exact m.keys1 y hy
      · rcases List.mem_cons.1 hy with rfl | hy
        · exact m.key
        · exact m.keys2 y hy
    · have := congrArg List.length hl
      simp only [List.length_append, List.length_cons, T.n_eq] at this
      have := m.tn
      omega
  | @closes o a b o1 o2 f a1 a2 g b1 b2 h t1 t2 t ks1 ks2 v n1 n2 n3 so sa sb r1 r2 hr hj hb ih1 ih2 =>
    intro So Sa Sb Bo Ba Bb Vo Va Vb
    obtain ⟨vo1, vo2⟩ := (so.sides So).valid hR.none Vo
    obtain ⟨va1, va2⟩ := (sa.sides Sa).valid hR.none Va
    obtain ⟨vb1, vb2⟩ := (sb.sides Sb).valid hR.none Vb
    have i1 := ih1 (so.sides So).asrt (sa.sides Sa).asrt (sb.sides Sb).asrt (so.bal Bo).1 (sa.bal Ba).1 (sb.bal Bb).1 vo1 va1 vb1
    have i2 := ih2 (so.sides So).bsrt (sa.sides Sa).bsrt (sb.sides Sb).bsrt (so.bal Bo).2 (sa.bal Ba).2 (sb.bal Bb).2 vo2 va2 vb2
    have m := Runs.mid n1 so sa sb So Sa Sb i1 i2
    have hl : t.list = t1.list ++ t2.list := hj.list m.s2
    obtain ⟨q1, q2, q3⟩ := look_two m.less m.more
    refine ⟨hb m.b1 m.b2, ?_, fun k => ?_, fun y hy => ?_, m.asked, m.once, m.few, ?_⟩
    · rw [hl]
      exact List.pairwise_append.2 ⟨m.s1, m.s2, fun x hx y hy => ord_B.trans _ _ _ (m.less x hx) (m.more y hy)⟩
    · rw [hl]
      rcases cmp_three k (topK a b) with e | e | e
      · rw [q2 k e, m.lookL k e]
      · rw [e, q1, ← m.lookM]
        exact (hR.norm _ _ _ _ (by rw [hr])).symm
      · rw [q3 k e, m.lookR k e]
    · rw [hl] at hy
      rcases List.mem_append.1 hy with hy | hy
      · exact m.keys1 y hy
      · exact m.keys2 y hy
    · have := congrArg List.length hl
      simp only [List.length_append, T.n_eq] at this
      have := m.tn
      omega
theorem RunsA.mono {B B' : Nat} {R : ByteArray → ByteArray × Bool → ByteArray × Bool → ByteArray × Bool → ByteArray × Bool} {o a b t : T} {ks : List ByteArray} (h : RunsA B' R o a b t ks) (hB : B ≤ B') : RunsA B R o a b t ks := by
  induction h with
  | same => exact .same
  | left h => exact .left h
  | right h => exact .right h
  | joins n1 n2 n3 so sa sb _ _ hr hj ih1 ih2 => exact .joins n1 n2 n3 (so.mono hB) (sa.mono hB) (sb.mono hB) ih1 ih2 hr (hj.mono hB)
  | closes n1 n2 n3 so sa sb _ _ hr hj hb ih1 ih2 => exact .closes n1 n2 n3 (so.mono hB) (sa.mono hB) (sb.mono hB) ih1 ih2 hr (hj.mono hB) hb
/-- What is cut of one, beside what was cut of another before it. -/
def CutA (B : Nat) (K : ByteArray) (o a : T) (v2 v : Value) (W : World) : Prop := ∃ o1 f o2 a1 g a2, v2 = cv o1 o2 f ∧ v = cv a1 a2 g ∧ Splits B K o o1 f o2 ∧ In W o1 ∧ In W o2 ∧ Splits B K a a1 g a2 ∧ In W a1 ∧ In W a2 ∧ Apart o1 a1 ∧ Apart o2 a2
theorem CutA.below {B : Nat} {K : ByteArray} {o a : T} {v2 v : Value} {W W' : World} (h : CutA B K o a v2 v W) (hb : Below W.heap.size W W') : CutA B K o a v2 v W' := by
  obtain ⟨o1, f, o2, a1, g, a2, e1, e2, so, i1, i2, sa, i3, i4, p1, p2⟩ := h
  exact ⟨o1, f, o2, a1, g, a2, e1, e2, so, In.below hb i1, In.below hb i2, sa, In.below hb i3, In.below hb i4, p1, p2⟩
/-- What is cut of the first. -/
def CutO (m : Nat) (K : ByteArray) (o : T) (v : Value) (W : World) : Prop := ∃ o1 f o2 B0 W1, v = cv o1 o2 f ∧ Splits B0 K o o1 f o2 ∧ m ≤ B0 ∧ In W1 o1 ∧ In W1 o2 ∧ Below W1.heap.size W1 W
theorem CutO.below {m : Nat} {K : ByteArray} {o : T} {v : Value} {W W' : World} (h : CutO m K o v W) (hb : Below W.heap.size W W') : CutO m K o v W' := by
  obtain ⟨o1, f, o2, B0, W1, e, so, hm, i1, i2, hW⟩ := h
  exact ⟨o1, f, o2, B0, W1, e, so, hm, i1, i2, hW.trans (hb.mono hW.size)⟩
end Go.Proofs.YtkkpdgfllnbigaaGreatDoor.Pm
namespace Go.Proofs.YtkkpdgfllnbigaaGreatDoor.Pm
open Go.RowKit Go.Shelf
set_option linter.unusedSimpArgs false
end Go.Proofs.YtkkpdgfllnbigaaGreatDoor.Pm
namespace Go.Proofs.YtkkpdgfllnbigaaGreatDoor.Pm
open Go.RowKit Go.Shelf
set_option linter.unusedSimpArgs false
end Go.Proofs.YtkkpdgfllnbigaaGreatDoor.Pm
namespace Go.Proofs.YtkkpdgfllnbigaaGreatDoor.Pm
open Go.RowKit Go.Shelf
set_option linter.unusedSimpArgs false
end Go.Proofs.YtkkpdgfllnbigaaGreatDoor.Pm
namespace Go.Proofs.YtkkpdgfllnbigaaGreatDoor.Pm
open Go.RowKit Go.Shelf
set_option linter.unusedSimpArgs false
end Go.Proofs.YtkkpdgfllnbigaaGreatDoor.Pm
namespace Go.Proofs.YtkkpdgfllnbigaaGreatDoor
open Go.RowKit Go.Shelf

theorem look_at {k v : ByteArray} : ∀ {l : List Kv}, Pm.Srt l → ((k, v) ∈ l ↔ Pm.look k l = (v, true))
  | [], _ => by simp [Pm.look]
  | x :: l, h => by
    obtain ⟨h1, h2⟩ := List.pairwise_cons.1 h
    rw [Pm.look]
    by_cases e : x.1 = k
    · rw [if_pos e]
      constructor
      · intro hm
        rcases List.mem_cons.1 hm with rfl | hm
        · rfl
        · have := Pm.cmp_ne (h1 _ hm)
          exact absurd e this
      · intro hm
        have : x = (k, v) := Prod.ext e (by simpa using hm)
        rw [this]; exact List.mem_cons_self
    · rw [if_neg e, ← look_at h2]
      constructor
      · intro hm
        rcases List.mem_cons.1 hm with rfl | hm
        · exact absurd rfl e
        · exact hm
      · exact fun hm => List.mem_cons_of_mem _ hm
end Go.Proofs.YtkkpdgfllnbigaaGreatDoor
namespace Go.Proofs.YtkkpdgfllnbigaaGreatDoor.Tg
open Go.RowKit Go.Shelf
set_option linter.unusedSimpArgs false
attribute [local go_sem] Oper.semAt_some

theorem look_some {k v : ByteArray} {l : List Kv} (hs : Pm.Srt l) (h : Pm.look k l = (v, true)) : (k, v) ∈ l := (look_at hs).2 h
/-- Where a key stands with its value, putting it once more tells nothing new. -/
theorem tins_same {k v : ByteArray} {l : List Kv} (hs : Pm.Srt l) (h : (k, v) ∈ l) : Pm.ins k v l = l := by
  have h1 := Pm.srt_insP hs k v
  refine Rise.Up.same (f := Pm.cmpB) (st := Prod.fst) ordS_B h1 hs (fun z => ?_)
  rw [Pm.mem_ins hs]
  constructor
  · rintro (rfl | hh)
    · exact h
    · exact hh.1
  · intro hz
    by_cases e : z.1 = k
    · left
      have h2 := (look_at hs).1 h
      have h3 : (k, z.2) ∈ l := by rw [← e]; exact hz
      have h4 := (look_at hs).1 h3
      rw [h2] at h4
      injection h4 with h4
      exact Prod.ext e h4.symm
    · exact .inr ⟨hz, e⟩
/-- May a tag be put? -/
def okI (l : List Kv) (x : El) : Bool := okEl x && mayT l
def insI (l : List Kv) (x : El) : List Kv := if okI l x = true then Pm.ins (tkey x.2 x.1) x.2 l else []
def InsE (w : World) (l : List Kv) (x : El) (e : Ending) (w' : World) : Prop := ∃ t' pt, t'.ptr = .pointer pt ∧ e = .returned (.tuple #[.agg #[.pointer pt], .int .i64 (if okI l x = true then 0 else 2)]) ∧ Mg w' t' ∧ t'.list = insI l x ∧ Below w.heap.size w w'
theorem T27' : (Tryz.prog.info? 43).map (·.size) = some 1 := by kernel_rfl
set_option maxHeartbeats 4000000 in
set_option maxRecDepth 100000 in
theorem insert30 {w : World} {t : Pm.T} {pm : Option Addr} (s : St) (X : ByteArray) (h : Mg w t) (hp : t.ptr = .pointer pm) (hn : t.n < 400) : Calls Tryz.prog 14 #[.agg #[.pointer pm], svT s, .string X] w (InsE w t.list (s, X)) := by
  obtain ⟨g, r, lb, n, ix⟩ := s
  obtain ⟨w0, hw0⟩ : ∃ q, q = ((w.alloc (.cells #[.pointer pm] 43)).alloc (.cells #[.int .i64 g, .int .i64 r, .string lb, .int .i64 n, .int .i64 ix] 27)).alloc (.cells #[.pointer none] 43) := ⟨_, rfl⟩
  obtain ⟨m0, m1, m2, b0⟩ := new4r w _ _ _ w0 hw0
  obtain ⟨Mb, hMb⟩ : ∃ q, q = w.heap.size := ⟨_, rfl⟩
  obtain ⟨Sb, hSb⟩ : ∃ q, q = w.heap.size + 1 := ⟨_, rfl⟩
  obtain ⟨Rb, hRb⟩ : ∃ q, q = w.heap.size + 1 + 1 := ⟨_, rfl⟩
  rw [← hMb] at m0
  rw [← hSb] at m1
  rw [← hRb] at m2
  have HW := hide (And.intro hw0 (And.intro hRb (And.intro hSb hMb)))
  have HC : Hid (∀ W, Below w0.heap.size w0 W → W.cell? ⟨Mb, 0, none⟩ = some (.pointer pm) ∧ Mg W t ∧ ∀ pt, W.cell? ⟨Rb, 0, none⟩ = some (.pointer none) ∧ W.frozen? ⟨Rb, 0, none⟩ = false ∧ Hid ((W.setCell ⟨Rb, 0, none⟩ (.pointer pt)).heap[Rb]? = some (.cells #[.pointer pt] 43 (0, 0)) ∧ Below w.heap.size w (W.setCell ⟨Rb, 0, none⟩ (.pointer pt)) ∧ ∀ t', Mg W t' → Mg (W.setCell ⟨Rb, 0, none⟩ (.pointer pt)) t')) := hide (fun W hW => by
    have q2 := (hW.block _ (gI m2).1).trans m2
    have hb := b0.trans (hW.mono b0.size)
    refine ⟨cell_stays ((cell_of_row _ _ 0 _ 43 (0, 0) m0).trans rfl) hW, h.below hb, fun pt => ?_⟩
    obtain ⟨u, o⟩ := set_one (i := 0) (.pointer pt) q2
    exact ⟨(cell_of_row _ _ 0 _ 43 (0, 0) q2).trans rfl, frozen_of_row _ _ 0 _ 43 q2, hide ⟨by simpa using u, Below.only hb o hb.size (fun j e => by have e' : j = Rb := e; omega), fun t' ht' => ht'.aside q2 o⟩⟩)
  have hkey := key109 X (g, r, lb, n, ix) w0
  have hmay := fun W (hW : Mg W t) => may28 hW hp
  have hget := fun W (hW : Mg W t) => Pm.get_any t (tkey X (g, r, lb, n, ix)) W hW.inn
  have hput := fun W (hW : Mg W t) => Pm.mPut_any t (tkey X (g, r, lb, n, ix)) X W hW.inn (by have := h.few; omega)
  unfold Pm.mv at hget hput
  simp only [hp] at hget hput
  have hke : okEl ((g, r, lb, n, ix), X) = true → keyE ((g, r, lb, n, ix), X) = tkey X (g, r, lb, n, ix) := fun h => by unfold keyE; rw [if_pos h]
  obtain ⟨EC, hEC⟩ : ∃ q : Int, q = (if okI t.list ((g, r, lb, n, ix), X) = true then 0 else 2) := ⟨_, rfl⟩
  have HE0 : Hid (∀ W t' pt, t'.ptr = .pointer pt → Mg W t' → t'.list = insI t.list ((g, r, lb, n, ix), X) → Below w.heap.size w W → InsE w t.list ((g, r, lb, n, ix), X) (.returned (.tuple #[.agg #[.pointer pt], .int .i64 EC])) W) := hide (fun W t' pt h1 h2 h3 h4 => ⟨t', pt, h1, by rw [hEC], h2, h3, h4⟩)
  have hsz : okEl ((g, r, lb, n, ix), X) = true → (tkey X (g, r, lb, n, ix)).size ≤ 9223372036854775807 := fun h => by
    simp only [okEl, Bool.and_eq_true] at h
    have := tkey_size h.2 h.1
    omega
  have HF := hide (And.intro h (And.intro hn (And.intro hEC (And.intro hke (And.intro hp hsz)))))
  generalize InsE w t.list ((g, r, lb, n, ix), X) = PE at HE0 ⊢
  obtain ⟨s0, -, -⟩ := HC.out w0 (Below.refl _ _)
  have d0 : w0.cell? ⟨Sb, 0, none⟩ = some (.int .i64 g) := (cell_of_row _ _ 0 _ 27 (0, 0) m1).trans rfl
  have d1 : w0.cell? ⟨Sb, 1, none⟩ = some (.int .i64 r) := (cell_of_row _ _ 1 _ 27 (0, 0) m1).trans rfl
  have d2 : w0.cell? ⟨Sb, 2, none⟩ = some (.string lb) := (cell_of_row _ _ 2 _ 27 (0, 0) m1).trans rfl
  have d3 : w0.cell? ⟨Sb, 3, none⟩ = some (.int .i64 n) := (cell_of_row _ _ 3 _ 27 (0, 0) m1).trans rfl
  have d4 : w0.cell? ⟨Sb, 4, none⟩ = some (.int .i64 ix) := (cell_of_row _ _ 4 _ 27 (0, 0) m1).trans rfl
  dsimp only [svT] at hkey ⊢
  generalize keyE ((g, r, lb, n, ix), X) = KE at hkey hke
  clear h hp hn m0 m1 m2 b0 hw0 hMb hSb hRb hEC hsz
  cases hok : okEl ((g, r, lb, n, ix), X) with
  | false =>
    rw [hok] at hkey
    have hE2 : EC = 2 := by rw [HF.out.2.2.1]; unfold okI; rw [hok]; rfl
    subst hE2
    have HI : Hid (insI t.list ((g, r, lb, n, ix), X) = []) := hide (by unfold insI okI; rw [hok]; rfl)
    clear hok hke
    go_enter Tryz.func14, Tryz.ntmps14
    go_upto_region 1 with fail
    rw [← HW.out.1, ← HW.out.2.1, ← HW.out.2.2.1, ← HW.out.2.2.2]
    go_upto_region 3 with (go_at_call 5; refine hkey.mono ?_; rintro e w1 ⟨rfl, b1⟩; have H1 := hide b1; clear b1; dsimp only)
    obtain ⟨-, -, hfin⟩ := HC.out w1 H1.out
    obtain ⟨e1, e2, HE⟩ := hfin none
    clear hfin
    go_wp2
    refine ret_row_tmp Rb [.pointer none] rfl rfl rfl Tryz.underlying43 rfl T27' HE.out.1 rfl ?_
    exact HE0.out _ .nil none rfl (Mg.nil _) (by rw [HI.out]; rfl) HE.out.2.1
  | true =>
    rw [hok] at hkey
    have hk := hke hok
    subst hk
    cases hmt : mayT t.list with
    | false =>
      rw [hmt] at hmay
      have hE2 : EC = 2 := by rw [HF.out.2.2.1]; unfold okI; rw [hok, hmt]; rfl
      subst hE2
      have HI : Hid (insI t.list ((g, r, lb, n, ix), X) = []) := hide (by unfold insI okI; rw [hok, hmt]; rfl)
      clear hok hke hmt
      go_enter Tryz.func14, Tryz.ntmps14
      go_upto_region 1 with fail
      rw [← HW.out.1, ← HW.out.2.1, ← HW.out.2.2.1, ← HW.out.2.2.2]
      go_upto_region 3 with (first
        | (go_at_call 5; refine hkey.mono ?_; rintro e w1 ⟨rfl, b1⟩; obtain ⟨s1, mg1, -⟩ := HC.out w1 b1; have hm1 := hmay w1 mg1; have H1 := hide b1; clear b1 mg1; dsimp only)
        | (go_at_call 30; refine hm1.mono ?_; rintro e w2 ⟨rfl, b2⟩; have H2 := hide (H1.out.trans (b2.mono H1.out.size)); clear b2; dsimp only))
      obtain ⟨-, -, hfin⟩ := HC.out w2 H2.out
      obtain ⟨e1, e2, HE⟩ := hfin none
      clear hfin hm1
      go_wp2
      refine ret_row_tmp Rb [.pointer none] rfl rfl rfl Tryz.underlying43 rfl T27' HE.out.1 rfl ?_
      exact HE0.out _ .nil none rfl (Mg.nil _) (by rw [HI.out]; rfl) HE.out.2.1
    | true =>
      rw [hmt] at hmay
      have hE2 : EC = 0 := by rw [HF.out.2.2.1]; unfold okI; rw [hok, hmt]; rfl
      subst hE2
      have HI : Hid (insI t.list ((g, r, lb, n, ix), X) = Pm.ins (tkey X (g, r, lb, n, ix)) X t.list) := hide (by unfold insI okI; rw [hok, hmt]; rfl)
      have HO := hide (And.intro hok hmt)
      have hfl := Pm.find_look t (tkey X (g, r, lb, n, ix)) HF.out.1.srt
      obtain ⟨V, hV⟩ : ∃ V, V = (t.find (tkey X (g, r, lb, n, ix))).val := ⟨_, rfl⟩
      obtain ⟨HS, hHS⟩ : ∃ V, V = (t.find (tkey X (g, r, lb, n, ix))).isSome := ⟨_, rfl⟩
      rw [← hV, ← hHS] at hget hfl
      have hin : HS = true → (tkey X (g, r, lb, n, ix), X) ∈ t.list := fun hh => by
        rw [hh] at hfl
        have h1 := look_some HF.out.1.srt hfl.symm
        have h2 := mayT_mem hmt h1
        have h3 := hok
        simp only [okEl, Bool.and_eq_true] at h3
        have h4 := (tgV_text h2).1 (tgV_key h3.2 h3.1).1
        have h5 : X = V := h4
        rw [← h5] at h1
        exact h1
      have HL := hide hin
      clear hok hke hmt hV hHS hfl hin
      generalize tkey X (g, r, lb, n, ix) = K at *
      cases HS with
      | true =>
        go_enter Tryz.func14, Tryz.ntmps14
        go_upto_region 1 with fail
        rw [← HW.out.1, ← HW.out.2.1, ← HW.out.2.2.1, ← HW.out.2.2.2]
        go_upto_region 6 with (first
          | (go_at_call 31; refine hg2.mono ?_; rintro e w3 ⟨rfl, b3⟩; have H3 := hide (H2.out.trans (b3.mono H2.out.size)); have s3 := cell_stays s2 b3; clear b3; dsimp only)
          | (go_at_call 30; refine hm1.mono ?_; rintro e w2 ⟨rfl, b2⟩; have H2 := hide (H1.out.trans (b2.mono H1.out.size)); obtain ⟨s2, mg2, -⟩ := HC.out w2 H2.out; have hg2 := hget w2 mg2; clear b2 mg2; dsimp only)
          | (go_at_call 5; refine hkey.mono ?_; rintro e w1 ⟨rfl, b1⟩; obtain ⟨s1, mg1, -⟩ := HC.out w1 b1; have hm1 := hmay w1 mg1; have H1 := hide b1; clear b1 mg1; dsimp only))
        obtain ⟨-, mg3, hfin⟩ := HC.out w3 H3.out
        obtain ⟨e1, e2, HE⟩ := hfin pm
        have HM3 := hide mg3
        clear hfin hm1 hg2 s1 s2 mg3
        go_wp2
        refine ret_row_tmp Rb [.pointer pm] rfl rfl rfl Tryz.underlying43 rfl T27' HE.out.1 rfl ?_
        exact HE0.out _ t pm HF.out.2.2.2.2.1 (HE.out.2.2 t HM3.out) (by rw [HI.out, tins_same HF.out.1.srt (HL.out (by first | rfl | trivial))]) HE.out.2.1
      | false =>
        go_enter Tryz.func14, Tryz.ntmps14
        go_upto_region 1 with fail
        rw [← HW.out.1, ← HW.out.2.1, ← HW.out.2.2.1, ← HW.out.2.2.2]
        go_wp2_with (first
          | (go_at_call 32; refine hp3.mono ?_; rintro e w4 ⟨t', rfl, hi4, hpu, b4⟩; obtain ⟨pt, hpt⟩ := t'.ptr_shape; rw [hpt]; obtain ⟨-, -, hfin⟩ := HC.out w4 (H3.out.trans (b4.mono H3.out.size)); obtain ⟨e1, e2, HE⟩ := hfin pt; have H4 := hide (And.intro hpt (And.intro (HM3.out.put hpu hi4 HF.out.2.1 (HF.out.2.2.2.2.2 HO.out.1)) (hpu.list HF.out.1.srt))); clear hi4 hpu b4 hpt hfin hp3; dsimp only)
          | (go_at_call 31; refine hg2.mono ?_; rintro e w3 ⟨rfl, b3⟩; have H3 := hide (H2.out.trans (b3.mono H2.out.size)); obtain ⟨s3, mg3, -⟩ := HC.out w3 H3.out; have hp3 := hput w3 mg3; have HM3 := hide mg3; clear b3 mg3 hg2; dsimp only)
          | (go_at_call 30; refine hm1.mono ?_; rintro e w2 ⟨rfl, b2⟩; have H2 := hide (H1.out.trans (b2.mono H1.out.size)); obtain ⟨s2, mg2, -⟩ := HC.out w2 H2.out; have hg2 := hget w2 mg2; clear b2 mg2 hm1; dsimp only)
          | (go_at_call 5; refine hkey.mono ?_; rintro e w1 ⟨rfl, b1⟩; obtain ⟨s1, mg1, -⟩ := HC.out w1 b1; have hm1 := hmay w1 mg1; have H1 := hide b1; clear b1 mg1 hkey; dsimp only))
        refine ret_row_tmp Rb [.pointer pt] rfl rfl rfl Tryz.underlying43 rfl T27' HE.out.1 rfl ?_
        exact HE0.out _ t' pt H4.out.1 (HE.out.2.2 t' H4.out.2.1) (by rw [HI.out, H4.out.2.2]) HE.out.2.1
end Go.Proofs.YtkkpdgfllnbigaaGreatDoor.Tg
