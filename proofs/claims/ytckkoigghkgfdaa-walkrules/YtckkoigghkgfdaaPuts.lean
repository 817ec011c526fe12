/-
  WHAT PUT MAKES, PLAINLY: its keys, that it is balanced, how many of its nodes are new; and of what a map is built.
-/
import Derived.Test.YtckkoigghkgfdaaTheory
namespace Go.Proofs.Ytckkoigghkgfdaa

/-- What joining answers. -/
def Joins (B : Nat) (p : Nat) (k : ByteArray) (v : Int) (nl nr l r t : T) : Prop := (l = nl ∧ r = nr ∧ t = .node p k v nl nr) ∨ (¬ (l = nl ∧ r = nr) ∧ Joined B k v l r t)
theorem Joins.mono {B B' p k v nl nr l r t} (h : Joins B' p k v nl nr l r t) (hB : B ≤ B') : Joins B p k v nl nr l r t := h.imp id (fun h => ⟨h.1, h.2.mono hB⟩)
theorem Joins.list {B p k v nl nr l r t} (h : Joins B p k v nl nr l r t) : t.list = l.list ++ (k, v) :: r.list := by
  rcases h with ⟨rfl, rfl, rfl⟩ | ⟨_, h⟩
  · rfl
  · exact h.list
/-- All nodes lie below block B. -/
def T.under (B : Nat) : T → Prop
  | .nil => True
  | .node p _ _ l r => p < B ∧ l.under B ∧ r.under B
theorem T.under_fresh {B : Nat} : ∀ {t : T}, t.under B → t.fresh B = 0
  | .nil, _ => rfl
  | .node p _ _ l r, ⟨h1, h2, h3⟩ => by simp [T.fresh, T.under_fresh h2, T.under_fresh h3]; omega
def T.newRoot (B : Nat) : T → Prop
  | .nil => False
  | .node p _ _ _ _ => B ≤ p
theorem T.under_root {B : Nat} {t : T} (h : t.under B) (h2 : t.newRoot B) : False := by
  cases t with
  | nil => exact h2
  | node p k v l r => have := h.1; simp only [T.newRoot] at h2; omega
theorem T.fresh_root {B : Nat} {p k v l r} (h : (T.node p k v l r).newRoot B) : (T.node p k v l r).fresh B = l.fresh B + r.fresh B + 1 := T.fresh_new h

/-- A part of a tree. -/
inductive Sub (s : T) : T → Prop where
  | here : Sub s s
  | left {p k v l r} (h : Sub s l) : Sub s (.node p k v l r)
  | right {p k v l r} (h : Sub s r) : Sub s (.node p k v l r)
theorem Sub.trans {a b c : T} (h : Sub a b) (k : Sub b c) : Sub a c := by
  induction k with
  | here => exact h
  | left _ ih => exact .left ih
  | right _ ih => exact .right ih
/-- A tree of new nodes above parts that meet C. -/
inductive Built (B : Nat) (C : T → Prop) : T → Prop where
  | nil : Built B C .nil
  | old {t : T} (h : C t) : Built B C t
  | new {p k v l r} (hp : B ≤ p) (hl : Built B C l) (hr : Built B C r) : Built B C (.node p k v l r)
theorem Built.mono {B B' : Nat} {C C' : T → Prop} {t : T} (h : Built B' C t) (hB : B ≤ B') (hC : ∀ t, C t → Built B C' t) : Built B C' t := by
  induction h with
  | nil => exact .nil
  | old h => exact hC _ h
  | new hp _ _ ihl ihr => exact .new (by omega) ihl ihr
/-- C is met by the sides of what meets it. -/
def Down (C : T → Prop) : Prop := ∀ p k v l r, C (.node p k v l r) → C l ∧ C r
theorem Built.sides {B : Nat} {C : T → Prop} (hD : Down C) {p k v l r} (h : Built B C (.node p k v l r)) : Built B C l ∧ Built B C r := by
  cases h with
  | old h => exact ⟨.old (hD _ _ _ _ _ h).1, .old (hD _ _ _ _ _ h).2⟩
  | new _ hl hr => exact ⟨hl, hr⟩
theorem Settled.built {B : Nat} {C : T → Prop} (hD : Down C) {k v l r t} (h : Settled B k v l r t) (hl : Built B C l) (hr : Built B C r) : Built B C t := by
  cases h with
  | plain _ _ hp => exact .new hp hl hr
  | rightIn _ _ hp hq hs =>
    obtain ⟨a, b⟩ := hl.sides hD
    obtain ⟨c, d⟩ := b.sides hD
    exact .new hp (.new hq a c) (.new hs d hr)
  | rightOut _ _ hp hq =>
    obtain ⟨a, b⟩ := hl.sides hD
    exact .new hp a (.new hq b hr)
  | leftIn _ _ hp hq hs =>
    obtain ⟨a, b⟩ := hr.sides hD
    obtain ⟨c, d⟩ := a.sides hD
    exact .new hp (.new hq hl c) (.new hs d b)
  | leftOut _ _ hp hq =>
    obtain ⟨a, b⟩ := hr.sides hD
    exact .new hp (.new hq hl a) b
theorem Joined.built {B : Nat} {C : T → Prop} (hD : Down C) {k v l r t} (h : Joined B k v l r t) : Built B C l → Built B C r → Built B C t := by
  induction h with
  | mid _ _ hp => exact fun hl hr => .new hp hl hr
  | left _ _ hs ih => exact fun hl hr => hs.built hD (hl.sides hD).1 (ih (hl.sides hD).2 hr)
  | right _ _ hs ih => exact fun hl hr => hs.built hD (ih hl (hr.sides hD).1) (hr.sides hD).2
theorem Joins.built {B : Nat} {C : T → Prop} (hD : Down C) {p k v nl nr l r t} (h : Joins B p k v nl nr l r t) (hn : C (.node p k v nl nr)) (hl : Built B C l) (hr : Built B C r) : Built B C t := by
  rcases h with ⟨rfl, rfl, rfl⟩ | ⟨_, h⟩
  · exact .old hn
  · exact h.built hD hl hr
theorem down_sub (a : T) : Down (fun t => Sub t a) := fun _ _ _ _ _ h => ⟨(Sub.left .here).trans h, (Sub.right .here).trans h⟩

/-- Sides whose heights differ by two: which nodes there are. -/
theorem Joined.twoL {B k v l r t} (h : Joined B k v l r t) (bl : l.bal) (e : l.h = r.h + 2) : ∃ lp lk lv ll lr, l = .node lp lk lv ll lr ∧
    ((lr.h ≤ ll.h ∧ ∃ p q, B ≤ p ∧ B ≤ q ∧ t = .node q lk lv ll (.node p k v lr r)) ∨ (ll.h < lr.h ∧ ∃ ip ik iv il ir p q s, lr = .node ip ik iv il ir ∧ B ≤ p ∧ B ≤ q ∧ B ≤ s ∧ t = .node p ik iv (.node q lk lv ll il) (.node s k v ir r))) := by
  cases h with
  | mid h1 h2 => omega
  | right h1 => omega
  | @left lp lk lv ll lr r m t h1 hm hs =>
    refine ⟨lp, lk, lv, ll, lr, rfl, ?_⟩
    obtain ⟨b1, b2, b3, b4⟩ := bl
    have hh : (T.node lp lk lv ll lr).h = max ll.h lr.h + 1 := rfl
    rw [hh] at e
    cases hm with
    | left g1 => omega
    | right g1 => omega
    | @mid _ _ p g1 g2 hp =>
      have hM : (T.node p k v lr r).h = max lr.h r.h + 1 := rfl
      generalize hmm : T.node p k v lr r = m at hs hM
      cases hs with
      | plain f1 f2 hq => subst hmm; exact .inl ⟨by omega, p, _, hp, hq, rfl⟩
      | rightIn f1 => omega
      | rightOut f1 => omega
      | @leftIn _ rp rk rv rr ip ik iv il ir p' q' s' f1 f2 hp' hq' hs' =>
        simp only [T.node.injEq] at hmm
        obtain ⟨rfl, rfl, rfl, rfl, rfl⟩ := hmm
        refine .inr ⟨by omega, ip, ik, iv, il, ir, _, _, _, rfl, hp', hq', hs', rfl⟩
      | @leftOut _ rp rk rv rr i p' q' f1 f2 =>
        simp only [T.node.injEq] at hmm
        obtain ⟨rfl, rfl, rfl, rfl, rfl⟩ := hmm
        omega
theorem Joined.twoR {B k v l r t} (h : Joined B k v l r t) (br : r.bal) (e : r.h = l.h + 2) : ∃ rp rk rv rl rr, r = .node rp rk rv rl rr ∧
    ((rl.h ≤ rr.h ∧ ∃ p q, B ≤ p ∧ B ≤ q ∧ t = .node q rk rv (.node p k v l rl) rr) ∨ (rr.h < rl.h ∧ ∃ ip ik iv il ir p q s, rl = .node ip ik iv il ir ∧ B ≤ p ∧ B ≤ q ∧ B ≤ s ∧ t = .node p ik iv (.node q k v l il) (.node s rk rv ir rr))) := by
  cases h with
  | mid h1 h2 => omega
  | left h1 => omega
  | @right rp rk rv rl rr l m t h1 hm hs =>
    refine ⟨rp, rk, rv, rl, rr, rfl, ?_⟩
    obtain ⟨b1, b2, b3, b4⟩ := br
    have hh : (T.node rp rk rv rl rr).h = max rl.h rr.h + 1 := rfl
    rw [hh] at e
    cases hm with
    | left g1 => omega
    | right g1 => omega
    | @mid _ _ p g1 g2 hp =>
      have hM : (T.node p k v l rl).h = max l.h rl.h + 1 := rfl
      generalize hmm : T.node p k v l rl = m at hs hM
      cases hs with
      | plain f1 f2 hq => subst hmm; exact .inl ⟨by omega, p, _, hp, hq, rfl⟩
      | leftIn f1 => omega
      | leftOut f1 => omega
      | @rightIn _ lp lk lv ll ip ik iv il ir p' q' s' f1 f2 hp' hq' hs' =>
        simp only [T.node.injEq] at hmm
        obtain ⟨rfl, rfl, rfl, rfl, rfl⟩ := hmm
        refine .inr ⟨by omega, ip, ik, iv, il, ir, _, _, _, rfl, hp', hq', hs', rfl⟩
      | @rightOut _ lp lk lv ll i p' q' f1 f2 =>
        simp only [T.node.injEq] at hmm
        obtain ⟨rfl, rfl, rfl, rfl, rfl⟩ := hmm
        omega

/-- put. -/
inductive Puts (B : Nat) (k : ByteArray) (v : Int) : T → T → Prop where
  | none {p : Nat} (hp : B ≤ p) : Puts B k v .nil (.node p k v .nil .nil)
  | left {p nk nv l r l' t} (hc : cmpB k nk = -1) (h : Puts B k v l l') (hj : Joins B p nk nv l r l' r t) : Puts B k v (.node p nk nv l r) t
  | right {p nk nv l r r' t} (hc : cmpB k nk = 1) (h : Puts B k v r r') (hj : Joins B p nk nv l r l r' t) : Puts B k v (.node p nk nv l r) t
  | same {p nk nv l r q} (hc : cmpB k nk = 0) (hq : B ≤ q) : Puts B k v (.node p nk nv l r) (.node q k v l r)
theorem Puts.mono {B B' k v t t'} (h : Puts B' k v t t') (hB : B ≤ B') : Puts B k v t t' := by
  induction h with
  | none hp => exact .none (by omega)
  | left hc _ hj ih => exact .left hc ih (hj.mono hB)
  | right hc _ hj ih => exact .right hc ih (hj.mono hB)
  | same hc hq => exact .same hc (by omega)
theorem Puts.list {B k v t t'} (h : Puts B k v t t') : Srt t.list → t'.list = ins k v t.list := by
  induction h with
  | none hp => intro _; simp [T.list, ins, pos, has]
  | @left p nk nv l r l' t hc _ hj ih =>
    intro hs
    have hs' := Srt.app.1 hs
    rw [hj.list, ih hs'.1]
    exact (ins_left (x := (nk, nv)) hc _ _).symm
  | @right p nk nv l r r' t hc _ hj ih =>
    intro hs
    obtain ⟨s1, s2, s3, s4⟩ := Srt.app.1 hs
    have hnk : cmpB nk k = -1 := by have := ord_B.anti k nk; omega
    rw [hj.list, ih s2]
    have : (T.node p nk nv l r).list = (l.list ++ [(nk, nv)]) ++ r.list := by simp [T.list]
    rw [this, ins_right]
    · simp
    · intro y hy
      simp only [List.mem_append, List.mem_singleton] at hy
      rcases hy with hy | rfl
      · exact ord_B.trans _ _ _ (s3 y hy) hnk
      · exact hnk
  | @same p nk nv l r q hc hq =>
    intro hs
    obtain ⟨s1, s2, s3, s4⟩ := Srt.app.1 hs
    have := ord_B.eq _ _ hc
    subst this
    exact (ins_same s3).symm
theorem Puts.built {B k v t t'} (h : Puts B k v t t') : Built B (fun s => Sub s t) t' := by
  induction h with
  | none hp => exact .new hp .nil .nil
  | @left p nk nv l r l' t hc _ hj ih => exact hj.built (down_sub _) .here (ih.mono (Nat.le_refl _) (fun s hs => .old (.left hs))) (.old (.right .here))
  | @right p nk nv l r r' t hc _ hj ih => exact hj.built (down_sub _) .here (.old (.left .here)) (ih.mono (Nat.le_refl _) (fun s hs => .old (.right hs)))
  | @same p nk nv l r q hc hq => exact .new hq (.old (.left .here)) (.old (.right .here))

structure PutSays (B : Nat) (k : ByteArray) (t t' : T) : Prop where
  bal : t'.bal
  lo : t.h ≤ t'.h
  hi : t'.h ≤ t.h + 1
  root : t'.newRoot B
  fr : t'.fresh B ≤ t.h + 1
  there : has k t.list = true → t'.h = t.h ∧ t'.fresh B ≤ t.h
  grew : t'.h = t.h + 1 → (t'.right.h < t'.left.h → t'.left.newRoot B) ∧ (t'.left.h < t'.right.h → t'.right.newRoot B)
theorem Puts.says {B k v t t'} (h : Puts B k v t t') : Srt t.list → t.bal → t.under B → PutSays B k t t' := by
  induction h with
  | @none p hp =>
    intro _ _ _
    refine ⟨⟨by decide, by decide, trivial, trivial⟩, by simp [T.h], by simp [T.h], hp, by simp [T.fresh, T.h, hp], fun h => by simp [T.list, has, pos] at h, fun _ => ⟨fun h => by simp [T.left, T.right, T.h] at h, fun h => by simp [T.left, T.right, T.h] at h⟩⟩
  | @left p nk nv l r l' t hc hput hj ih =>
    intro hs hb hu
    obtain ⟨s1, s2, s3, s4⟩ := Srt.app.1 hs
    obtain ⟨b1, b2, b3, b4⟩ := hb
    obtain ⟨u1, u2, u3⟩ := hu
    have P := ih s1 b3 u2
    have hhas : has k (T.node p nk nv l r).list = has k l.list := has_left (x := (nk, nv)) hc _ _
    have hJ : Joined B nk nv l' r t := by
      rcases hj with ⟨rfl, _⟩ | ⟨_, hj⟩
      · exact (T.under_root u2 P.root).elim
      · exact hj
    have J := hJ.says P.bal b4
    have f0 := T.under_fresh u3
    have hh : (T.node p nk nv l r).h = max l.h r.h + 1 := rfl
    obtain ⟨P1, P2, P3, P4, P5, P6, P7⟩ := P
    by_cases hd : l'.h ≤ r.h + 1
    · have hmid : ∃ q, B ≤ q ∧ t = .node q nk nv l' r := by
        cases hJ with
        | mid _ _ hq => exact ⟨_, hq, rfl⟩
        | left g1 => omega
        | right g1 => omega
      obtain ⟨q, hq, rfl⟩ := hmid
      have ht : (T.node q nk nv l' r).h = max l'.h r.h + 1 := rfl
      have hf := T.fresh_new (B := B) (k := nk) (v := nv) (l := l') (r := r) hq
      refine ⟨J.bal, by omega, by omega, hq, by omega, fun g => ?_, fun g => ⟨fun _ => P4, fun g2 => ?_⟩⟩
      · rw [hhas] at g
        have := P6 g
        omega
      · simp only [T.left, T.right] at g2
        omega
    · have e2 : l'.h = r.h + 2 := by omega
      obtain ⟨lp, lk, lv, ll, lr, rfl, hcase⟩ := hJ.twoL P1 e2
      have hl' : (T.node lp lk lv ll lr).h = max ll.h lr.h + 1 := rfl
      have hfl := T.fresh_root P4
      obtain ⟨c1, c2, c3, c4⟩ := P1
      have hnot : ¬ has k l.list = true := fun g => by have := (P6 g).1; omega
      have G := P7 (by omega)
      simp only [T.left, T.right] at G
      rcases hcase with ⟨g1, p', q', hp', hq', rfl⟩ | ⟨g1, ip, ik, iv, il, ir, p', q', s', rfl, hp', hq', hs', rfl⟩
      · have ht : (T.node q' lk lv ll (T.node p' nk nv lr r)).h = max ll.h (max lr.h r.h + 1) + 1 := rfl
        have hf := T.fresh_new (B := B) (k := lk) (v := lv) (l := ll) (r := T.node p' nk nv lr r) hq'
        have hf2 := T.fresh_new (B := B) (k := nk) (v := nv) (l := lr) (r := r) hp'
        refine ⟨J.bal, by omega, by omega, hq', by omega, fun g => (hnot (hhas ▸ g)).elim, fun g => ⟨fun g2 => ?_, fun _ => hp'⟩⟩
        simp only [T.left, T.right, T.h_node] at g2
        omega
      · have ht : (T.node p' ik iv (T.node q' lk lv ll il) (T.node s' nk nv ir r)).h = max (max ll.h il.h + 1) (max ir.h r.h + 1) + 1 := rfl
        have hi : (T.node ip ik iv il ir).h = max il.h ir.h + 1 := rfl
        have hf := T.fresh_new (B := B) (k := ik) (v := iv) (l := T.node q' lk lv ll il) (r := T.node s' nk nv ir r) hp'
        have hf2 := T.fresh_new (B := B) (k := lk) (v := lv) (l := ll) (r := il) hq'
        have hf3 := T.fresh_new (B := B) (k := nk) (v := nv) (l := ir) (r := r) hs'
        have hf4 := T.fresh_root (G.2 g1)
        refine ⟨J.bal, by omega, by omega, hp', by omega, fun g => (hnot (hhas ▸ g)).elim, fun g => ⟨fun _ => hq', fun _ => hs'⟩⟩
  | @right p nk nv l r r' t hc hput hj ih =>
    intro hs hb hu
    obtain ⟨s1, s2, s3, s4⟩ := Srt.app.1 hs
    obtain ⟨b1, b2, b3, b4⟩ := hb
    obtain ⟨u1, u2, u3⟩ := hu
    have P := ih s2 b4 u3
    have hnk : cmpB nk k = -1 := by have := ord_B.anti k nk; omega
    have hhas : has k (T.node p nk nv l r).list = has k r.list := by
      have : (T.node p nk nv l r).list = (l.list ++ [(nk, nv)]) ++ r.list := by simp [T.list]
      rw [this, has_right]
      intro y hy
      simp only [List.mem_append, List.mem_singleton] at hy
      rcases hy with hy | rfl
      · exact ord_B.trans _ _ _ (s3 y hy) hnk
      · exact hnk
    have hJ : Joined B nk nv l r' t := by
      rcases hj with ⟨_, rfl, _⟩ | ⟨_, hj⟩
      · exact (T.under_root u3 P.root).elim
      · exact hj
    have J := hJ.says b3 P.bal
    have f0 := T.under_fresh u2
    have hh : (T.node p nk nv l r).h = max l.h r.h + 1 := rfl
    obtain ⟨P1, P2, P3, P4, P5, P6, P7⟩ := P
    by_cases hd : r'.h ≤ l.h + 1
    · have hmid : ∃ q, B ≤ q ∧ t = .node q nk nv l r' := by
        cases hJ with
        | mid _ _ hq => exact ⟨_, hq, rfl⟩
        | left g1 => omega
        | right g1 => omega
      obtain ⟨q, hq, rfl⟩ := hmid
      have ht : (T.node q nk nv l r').h = max l.h r'.h + 1 := rfl
      have hf := T.fresh_new (B := B) (k := nk) (v := nv) (l := l) (r := r') hq
      refine ⟨J.bal, by omega, by omega, hq, by omega, fun g => ?_, fun g => ⟨fun g2 => ?_, fun _ => P4⟩⟩
      · rw [hhas] at g
        have := P6 g
        omega
      · simp only [T.left, T.right] at g2
        omega
    · have e2 : r'.h = l.h + 2 := by omega
      obtain ⟨rp, rk, rv, rl, rr, rfl, hcase⟩ := hJ.twoR P1 e2
      have hl' : (T.node rp rk rv rl rr).h = max rl.h rr.h + 1 := rfl
      have hfl := T.fresh_root P4
      obtain ⟨c1, c2, c3, c4⟩ := P1
      have hnot : ¬ has k r.list = true := fun g => by have := (P6 g).1; omega
      have G := P7 (by omega)
      simp only [T.left, T.right] at G
      rcases hcase with ⟨g1, p', q', hp', hq', rfl⟩ | ⟨g1, ip, ik, iv, il, ir, p', q', s', rfl, hp', hq', hs', rfl⟩
      · have ht : (T.node q' rk rv (T.node p' nk nv l rl) rr).h = max (max l.h rl.h + 1) rr.h + 1 := rfl
        have hf := T.fresh_new (B := B) (k := rk) (v := rv) (l := T.node p' nk nv l rl) (r := rr) hq'
        have hf2 := T.fresh_new (B := B) (k := nk) (v := nv) (l := l) (r := rl) hp'
        refine ⟨J.bal, by omega, by omega, hq', by omega, fun g => (hnot (hhas ▸ g)).elim, fun g => ⟨fun _ => hp', fun g2 => ?_⟩⟩
        simp only [T.left, T.right, T.h_node] at g2
        omega
      · have ht : (T.node p' ik iv (T.node q' nk nv l il) (T.node s' rk rv ir rr)).h = max (max l.h il.h + 1) (max ir.h rr.h + 1) + 1 := rfl
        have hi : (T.node ip ik iv il ir).h = max il.h ir.h + 1 := rfl
        have hf := T.fresh_new (B := B) (k := ik) (v := iv) (l := T.node q' nk nv l il) (r := T.node s' rk rv ir rr) hp'
        have hf2 := T.fresh_new (B := B) (k := nk) (v := nv) (l := l) (r := il) hq'
        have hf3 := T.fresh_new (B := B) (k := rk) (v := rv) (l := ir) (r := rr) hs'
        have hf4 := T.fresh_root (G.1 g1)
        refine ⟨J.bal, by omega, by omega, hp', by omega, fun g => (hnot (hhas ▸ g)).elim, fun g => ⟨fun _ => hq', fun _ => hs'⟩⟩
  | @same p nk nv l r q hc hq =>
    intro hs hb hu
    obtain ⟨b1, b2, b3, b4⟩ := hb
    obtain ⟨u1, u2, u3⟩ := hu
    have f1 := T.under_fresh u2
    have f2 := T.under_fresh u3
    have hf := T.fresh_new (B := B) (k := k) (v := v) (l := l) (r := r) hq
    have hh : (T.node p nk nv l r).h = max l.h r.h + 1 := rfl
    have ht : (T.node q k v l r).h = max l.h r.h + 1 := rfl
    exact ⟨⟨b1, b2, b3, b4⟩, by omega, by omega, hq, by omega, fun _ => ⟨by omega, by omega⟩, fun g => by omega⟩
end Go.Proofs.Ytckkoigghkgfdaa
