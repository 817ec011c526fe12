/-
  WHAT TAKE AND SPLIT MAKE, PLAINLY; which nodes two maps share; how high a balanced tree is.
-/
import Derived.Test.YtckkoigghkgfdaaPuts
namespace Go.Proofs.Ytckkoigghkgfdaa

/-- The least node, the greatest one. -/
def T.first : T → T
  | .nil => .nil
  | .node p k v .nil r => .node p k v .nil r
  | .node _ _ _ (.node p k v l r) _ => T.first (.node p k v l r)
def T.last : T → T
  | .nil => .nil
  | .node p k v l .nil => .node p k v l .nil
  | .node _ _ _ _ (.node p k v l r) => T.last (.node p k v l r)
theorem T.first_spec : ∀ {t : T}, t ≠ .nil → ∃ p k v r rest, t.first = .node p k v .nil r ∧ t.list = (k, v) :: rest ∧ Sub t.first t
  | .nil, h => (h rfl).elim
  | .node p k v .nil r, _ => ⟨p, k, v, r, r.list, rfl, rfl, .here⟩
  | .node p k v (.node p' k' v' l' r') r, _ => by
    obtain ⟨a, b, c, d, e, h1, h2, h3⟩ := T.first_spec (t := .node p' k' v' l' r') (by simp)
    refine ⟨a, b, c, d, e ++ (k, v) :: r.list, by rw [T.first]; exact h1, ?_, by rw [T.first]; exact .left h3⟩
    rw [T.list, h2]; rfl
theorem T.last_spec : ∀ {t : T}, t ≠ .nil → ∃ p k v l rest, t.last = .node p k v l .nil ∧ t.list = rest ++ [(k, v)] ∧ Sub t.last t
  | .nil, h => (h rfl).elim
  | .node p k v l .nil, _ => ⟨p, k, v, l, l.list, rfl, by simp [T.list], .here⟩
  | .node p k v l (.node p' k' v' l' r'), _ => by
    obtain ⟨a, b, c, d, e, h1, h2, h3⟩ := T.last_spec (t := .node p' k' v' l' r') (by simp)
    refine ⟨a, b, c, d, l.list ++ (k, v) :: e, by rw [T.last]; exact h1, ?_, by rw [T.last]; exact .right h3⟩
    rw [T.list, h2]; simp

/-- take. -/
inductive Takes (B : Nat) : ByteArray → T → T → Prop where
  | none {k} : Takes B k .nil .nil
  | left {k p nk nv l r l' t} (hc : cmpB k nk = -1) (h : Takes B k l l') (hj : Joins B p nk nv l r l' r t) : Takes B k (.node p nk nv l r) t
  | right {k p nk nv l r r' t} (hc : cmpB k nk = 1) (h : Takes B k r r') (hj : Joins B p nk nv l r l r' t) : Takes B k (.node p nk nv l r) t
  | onlyR {k p nk nv r} (hc : cmpB k nk = 0) : Takes B k (.node p nk nv .nil r) r
  | onlyL {k p nk nv l} (hc : cmpB k nk = 0) (hl : l ≠ .nil) : Takes B k (.node p nk nv l .nil) l
  | both {k p nk nv l r fp fk fv fr r' t} (hc : cmpB k nk = 0) (hl : l ≠ .nil) (hr : r ≠ .nil) (hf : r.first = .node fp fk fv .nil fr) (h : Takes B fk r r') (hj : Joins B fp fk fv .nil fr l r' t) : Takes B k (.node p nk nv l r) t
theorem Takes.mono {B B' k t t'} (h : Takes B' k t t') (hB : B ≤ B') : Takes B k t t' := by
  induction h with
  | none => exact .none
  | left hc _ hj ih => exact .left hc ih (hj.mono hB)
  | right hc _ hj ih => exact .right hc ih (hj.mono hB)
  | onlyR hc => exact .onlyR hc
  | onlyL hc hl => exact .onlyL hc hl
  | both hc hl hr hf _ hj ih => exact .both hc hl hr hf ih (hj.mono hB)
theorem Takes.list {B k t t'} (h : Takes B k t t') : Srt t.list → t'.list = del k t.list := by
  induction h with
  | none => intro _; simp [T.list, del, has, pos]
  | @left k p nk nv l r l' t hc _ hj ih =>
    intro hs
    have hs' := Srt.app.1 hs
    rw [hj.list, ih hs'.1]
    exact (del_left (x := (nk, nv)) hc _ _).symm
  | @right k p nk nv l r r' t hc _ hj ih =>
    intro hs
    obtain ⟨s1, s2, s3, s4⟩ := Srt.app.1 hs
    have hnk : cmpB nk k = -1 := by have := ord_B.anti k nk; omega
    rw [hj.list, ih s2]
    have : (T.node p nk nv l r).list = (l.list ++ [(nk, nv)]) ++ r.list := by simp [T.list]
    rw [this, del_right]
    · simp
    · intro y hy
      simp only [List.mem_append, List.mem_singleton] at hy
      rcases hy with hy | rfl
      · exact ord_B.trans _ _ _ (s3 y hy) hnk
      · exact hnk
  | @onlyR k p nk nv r hc =>
    intro hs
    have := ord_B.eq _ _ hc
    subst this
    exact (del_same (a := []) (by simp)).symm
  | @onlyL k p nk nv l hc hl =>
    intro hs
    obtain ⟨s1, s2, s3, s4⟩ := Srt.app.1 hs
    have := ord_B.eq _ _ hc
    subst this
    have := del_same (u := nv) (b := []) s3
    rw [List.append_nil] at this
    exact this.symm
  | @both k p nk nv l r fp fk fv fr r' t hc hl hr hf _ hj ih =>
    intro hs
    obtain ⟨s1, s2, s3, s4⟩ := Srt.app.1 hs
    have := ord_B.eq _ _ hc
    subst this
    obtain ⟨p', k', v', r2, rest, h1, h2, _⟩ := T.first_spec hr
    rw [hf] at h1
    simp only [T.node.injEq] at h1
    obtain ⟨_, rfl, rfl, _, _⟩ := h1
    rw [hj.list, ih s2, h2]
    have e1 : del fk ((fk, fv) :: rest) = rest := del_same (a := []) (by simp)
    rw [e1, T.list, h2]
    exact (del_same s3).symm
theorem Takes.built {B k t t'} (h : Takes B k t t') : Built B (fun s => Sub s t) t' := by
  induction h with
  | none => exact .nil
  | @left k p nk nv l r l' t hc _ hj ih => exact hj.built (down_sub _) .here (ih.mono (Nat.le_refl _) (fun s hs => .old (.left hs))) (.old (.right .here))
  | @right k p nk nv l r r' t hc _ hj ih => exact hj.built (down_sub _) .here (.old (.left .here)) (ih.mono (Nat.le_refl _) (fun s hs => .old (.right hs)))
  | onlyR hc => exact .old (.right .here)
  | onlyL hc hl => exact .old (.left .here)
  | @both k p nk nv l r fp fk fv fr r' t hc hl hr hf _ hj ih =>
    obtain ⟨_, _, _, _, _, h1, _, h3⟩ := T.first_spec hr
    rw [hf] at h3
    exact hj.built (down_sub _) (.right h3) (.old (.left .here)) (ih.mono (Nat.le_refl _) (fun s hs => .old (.right hs)))

structure TakeSays (B : Nat) (k : ByteArray) (t t' : T) : Prop where
  bal : t'.bal
  hi : t'.h ≤ t.h
  lo : t.h ≤ t'.h + 1
  fr : t'.fresh B ≤ 3 * t.h
  gone : has k t.list = false → t' = t
theorem Takes.says {B k t t'} (h : Takes B k t t') : Srt t.list → t.bal → t.under B → TakeSays B k t t' := by
  induction h with
  | none => intro _ _ _; exact ⟨trivial, Nat.le_refl _, by simp [T.h], by simp [T.fresh], fun _ => rfl⟩
  | @left k p nk nv l r l' t hc _ hj ih =>
    intro hs hb hu
    have fu := T.under_fresh hu
    obtain ⟨s1, s2, s3, s4⟩ := Srt.app.1 hs
    obtain ⟨b1, b2, b3, b4⟩ := hb
    obtain ⟨u1, u2, u3⟩ := hu
    obtain ⟨P1, P2, P3, P4, P5⟩ := ih s1 b3 u2
    have f0 := T.under_fresh u3
    have hh : (T.node p nk nv l r).h = max l.h r.h + 1 := rfl
    rcases hj with ⟨rfl, _, rfl⟩ | ⟨hne, hJ⟩
    · exact ⟨⟨b1, b2, b3, b4⟩, Nat.le_refl _, by omega, by omega, fun _ => rfl⟩
    · have J := hJ.says P1 b4
      have J1 := J.lo
      have J2 := J.hi
      have J3 := J.near
      have J4 := J.fr
      refine ⟨J.bal, by omega, by omega, by omega, fun g => ?_⟩
      have hhas : has k (T.node p nk nv l r).list = has k l.list := has_left (x := (nk, nv)) hc _ _
      exact (hne ⟨P5 (hhas ▸ g), rfl⟩).elim
  | @right k p nk nv l r r' t hc _ hj ih =>
    intro hs hb hu
    have fu := T.under_fresh hu
    obtain ⟨s1, s2, s3, s4⟩ := Srt.app.1 hs
    obtain ⟨b1, b2, b3, b4⟩ := hb
    obtain ⟨u1, u2, u3⟩ := hu
    obtain ⟨P1, P2, P3, P4, P5⟩ := ih s2 b4 u3
    have f0 := T.under_fresh u2
    have hh : (T.node p nk nv l r).h = max l.h r.h + 1 := rfl
    have hnk : cmpB nk k = -1 := by have := ord_B.anti k nk; omega
    rcases hj with ⟨_, rfl, rfl⟩ | ⟨hne, hJ⟩
    · exact ⟨⟨b1, b2, b3, b4⟩, Nat.le_refl _, by omega, by omega, fun _ => rfl⟩
    · have J := hJ.says b3 P1
      have J1 := J.lo
      have J2 := J.hi
      have J3 := J.near
      have J4 := J.fr
      refine ⟨J.bal, by omega, by omega, by omega, fun g => ?_⟩
      have hhas : has k (T.node p nk nv l r).list = has k r.list := by
        have : (T.node p nk nv l r).list = (l.list ++ [(nk, nv)]) ++ r.list := by simp [T.list]
        rw [this, has_right]
        intro y hy
        simp only [List.mem_append, List.mem_singleton] at hy
        rcases hy with hy | rfl
        · exact ord_B.trans _ _ _ (s3 y hy) hnk
        · exact hnk
      exact (hne ⟨rfl, P5 (hhas ▸ g)⟩).elim
  | @onlyR k p nk nv r hc =>
    intro hs hb hu
    have f0 := T.under_fresh hu.2.2
    have hh : (T.node p nk nv .nil r).h = max 0 r.h + 1 := rfl
    have := ord_B.eq _ _ hc
    subst this
    exact ⟨hb.2.2.2, by omega, by omega, by omega, fun g => by have := (pos_same (v := nv) (b := r.list) (a := []) (k := k) (by simp)).2; rw [T.list, T.list, this] at g; cases g⟩
  | @onlyL k p nk nv l hc hl =>
    intro hs hb hu
    have f0 := T.under_fresh hu.2.1
    have hh : (T.node p nk nv l .nil).h = max l.h 0 + 1 := rfl
    obtain ⟨s1, s2, s3, s4⟩ := Srt.app.1 hs
    have := ord_B.eq _ _ hc
    subst this
    exact ⟨hb.2.2.1, by omega, by omega, by omega, fun g => by have := (pos_same (v := nv) (b := []) s3).2; rw [T.list, T.list, this] at g; cases g⟩
  | @both k p nk nv l r fp fk fv fr r' t hc hl hr hf _ hj ih =>
    intro hs hb hu
    obtain ⟨s1, s2, s3, s4⟩ := Srt.app.1 hs
    obtain ⟨b1, b2, b3, b4⟩ := hb
    obtain ⟨u1, u2, u3⟩ := hu
    obtain ⟨P1, P2, P3, P4, P5⟩ := ih s2 b4 u3
    have f0 := T.under_fresh u2
    have hh : (T.node p nk nv l r).h = max l.h r.h + 1 := rfl
    have := ord_B.eq _ _ hc
    subst this
    rcases hj with ⟨e, _⟩ | ⟨hne, hJ⟩
    · exact (hl e).elim
    · have J := hJ.says b3 P1
      have J1 := J.lo
      have J2 := J.hi
      have J3 := J.near
      have J4 := J.fr
      exact ⟨J.bal, by omega, by omega, by omega, fun g => by have := (pos_same (v := nv) (b := r.list) s3).2; rw [T.list, this] at g; cases g⟩

/-- split. -/
inductive Splits (B : Nat) (k : ByteArray) : T → T → T → T → Prop where
  | none : Splits B k .nil .nil .nil .nil
  | left {p nk nv l r a f b t} (hc : cmpB k nk = -1) (h : Splits B k l a f b) (hj : Joins B p nk nv l r b r t) : Splits B k (.node p nk nv l r) a f t
  | right {p nk nv l r a f b t} (hc : cmpB k nk = 1) (h : Splits B k r a f b) (hj : Joins B p nk nv l r l a t) : Splits B k (.node p nk nv l r) t f b
  | same {p nk nv l r} (hc : cmpB k nk = 0) : Splits B k (.node p nk nv l r) l (.node p nk nv l r) r
theorem Splits.mono {B B' k t a f b} (h : Splits B' k t a f b) (hB : B ≤ B') : Splits B k t a f b := by
  induction h with
  | none => exact .none
  | left hc _ hj ih => exact .left hc ih (hj.mono hB)
  | right hc _ hj ih => exact .right hc ih (hj.mono hB)
  | same hc => exact .same hc
theorem Joins.bal {B p k v nl nr l r t} (h : Joins B p k v nl nr l r t) (hn : (T.node p k v nl nr).bal) (hl : l.bal) (hr : r.bal) : t.bal := by
  rcases h with ⟨_, _, rfl⟩ | ⟨_, h⟩
  · exact hn
  · exact (h.says hl hr).bal
theorem Splits.bal {B k t a f b} (h : Splits B k t a f b) : t.bal → a.bal ∧ b.bal := by
  induction h with
  | none => exact fun _ => ⟨trivial, trivial⟩
  | left hc _ hj ih => exact fun hb => ⟨(ih hb.2.2.1).1, hj.bal hb (ih hb.2.2.1).2 hb.2.2.2⟩
  | right hc _ hj ih => exact fun hb => ⟨hj.bal hb hb.2.2.1 (ih hb.2.2.2).1, (ih hb.2.2.2).2⟩
  | same hc => exact fun hb => ⟨hb.2.2.1, hb.2.2.2⟩
theorem Splits.sub {B k t a f b} (h : Splits B k t a f b) : f = .nil ∨ Sub f t := by
  induction h with
  | none => exact .inl rfl
  | left _ _ _ ih => exact ih.imp id .left
  | right _ _ _ ih => exact ih.imp id .right
  | same _ => exact .inr .here
/-- The keys below, the one, those above. -/
theorem Splits.list {B k t a f b} (h : Splits B k t a f b) : Srt t.list → a.list = t.list.take (pos k t.list) ∧ b.list = t.list.drop (if has k t.list then pos k t.list + 1 else pos k t.list) ∧ (has k t.list = false → f = .nil) ∧ (has k t.list = true → f ≠ .nil ∧ t.list[pos k t.list]? = some (k, f.val)) := by
  induction h with
  | none => intro _; simp [T.list, pos, has]
  | @left p nk nv l r a f b t hc _ hj ih =>
    intro hs
    obtain ⟨s1, s2, s3, s4⟩ := Srt.app.1 hs
    obtain ⟨i1, i2, i3, i4⟩ := ih s1
    have hp : pos k (T.node p nk nv l r).list = pos k l.list := pos_left (x := (nk, nv)) (by simp only; omega) _ _
    have hh : has k (T.node p nk nv l r).list = has k l.list := has_left (x := (nk, nv)) hc _ _
    have hpl := pos_le k l.list
    rw [hp, hh]
    refine ⟨?_, ?_, i3, fun g => ?_⟩
    · rw [i1]; exact (List.take_append_of_le_length hpl).symm
    · rw [hj.list, i2]
      refine (List.drop_append_of_le_length ?_).symm
      split
      · rename_i g
        obtain ⟨v', hv'⟩ := has_mem g
        exact (List.getElem?_eq_some_iff.1 hv').1
      · exact hpl
    · obtain ⟨j1, j2⟩ := i4 g
      exact ⟨j1, (List.getElem?_append_left (List.getElem?_eq_some_iff.1 j2).1).trans j2⟩
  | @right p nk nv l r a f b t hc _ hj ih =>
    intro hs
    obtain ⟨s1, s2, s3, s4⟩ := Srt.app.1 hs
    obtain ⟨i1, i2, i3, i4⟩ := ih s2
    have hnk : cmpB nk k = -1 := by have := ord_B.anti k nk; omega
    have e : (T.node p nk nv l r).list = (l.list ++ [(nk, nv)]) ++ r.list := by simp [T.list]
    have hall : ∀ y ∈ l.list ++ [(nk, nv)], cmpB y.1 k = -1 := by
      intro y hy
      simp only [List.mem_append, List.mem_singleton] at hy
      rcases hy with hy | rfl
      · exact ord_B.trans _ _ _ (s3 y hy) hnk
      · exact hnk
    rw [e, pos_right hall, has_right hall]
    refine ⟨?_, ?_, i3, fun g => ?_⟩
    · rw [hj.list, i1, List.take_length_add_append]; simp
    · have : (if has k r.list = true then (l.list ++ [(nk, nv)]).length + pos k r.list + 1 else (l.list ++ [(nk, nv)]).length + pos k r.list) = (l.list ++ [(nk, nv)]).length + (if has k r.list = true then pos k r.list + 1 else pos k r.list) := by split <;> omega
      rw [this, List.drop_length_add_append, i2]
    · obtain ⟨j1, j2⟩ := i4 g
      exact ⟨j1, by rw [List.getElem?_append_right (by omega), Nat.add_sub_cancel_left]; exact j2⟩
  | @same p nk nv l r hc =>
    intro hs
    obtain ⟨s1, s2, s3, s4⟩ := Srt.app.1 hs
    have := ord_B.eq _ _ hc
    subst this
    obtain ⟨h1, h2⟩ := pos_same (v := nv) (b := r.list) s3
    rw [T.list, h1, h2]
    refine ⟨by simp, by simp, ⟨fun g => (by cases g), fun _ => ⟨by simp, by simp [T.val]⟩⟩⟩

/-- The node of a key. -/
def T.find (k : ByteArray) : T → T
  | .nil => .nil
  | .node p nk nv l r => if cmpB k nk = -1 then l.find k else if cmpB k nk = 1 then r.find k else .node p nk nv l r
/-- How many nodes of t are nodes of a, as the program counts them. -/
def sharedIn (a : T) : T → Nat
  | .nil => 0
  | .node p k v l r => if a.find k = .node p k v l r then (T.node p k v l r).n else sharedIn a l + sharedIn a r
theorem Sub.mem {s t : T} (h : Sub s t) : ∀ x ∈ s.list, x ∈ t.list := by
  induction h with
  | here => exact fun _ h => h
  | left _ ih => intro x hx; simp only [T.list, List.mem_append]; exact .inl (ih x hx)
  | right _ ih => intro x hx; simp only [T.list, List.mem_append, List.mem_cons]; exact .inr (.inr (ih x hx))
theorem T.find_sub {a : T} {p k v l r} (h : Sub (.node p k v l r) a) : Srt a.list → a.find k = .node p k v l r := by
  induction h with
  | here => intro _; simp [T.find, ord_B.refl]
  | @left p' k' v' l' r' h ih =>
    intro hs
    obtain ⟨s1, s2, s3, s4⟩ := Srt.app.1 hs
    have := s3 (k, v) (h.mem (k, v) (by simp [T.list]))
    simp only at this
    simp only [T.find, this, if_true]
    exact ih s1
  | @right p' k' v' l' r' h ih =>
    intro hs
    obtain ⟨s1, s2, s3, s4⟩ := Srt.app.1 hs
    have h1 := s4 (k, v) (h.mem (k, v) (by simp [T.list]))
    simp only at h1
    have h2 : cmpB k k' = 1 := by have := ord_B.anti k k'; omega
    simp only [T.find, h2, if_true]
    exact ih s2
theorem shared_le (a : T) : ∀ t : T, sharedIn a t ≤ t.n
  | .nil => Nat.le_refl _
  | .node p k v l r => by
    have h1 := shared_le a l
    have h2 := shared_le a r
    simp only [sharedIn, T.n]
    split <;> omega
theorem shared_node (a : T) (p k v l r) : sharedIn a l + sharedIn a r ≤ sharedIn a (T.node p k v l r) := by
  have h1 := shared_le a l
  have h2 := shared_le a r
  simp only [sharedIn, T.n]
  split <;> omega
theorem Built.few {B : Nat} {a t : T} (h : Built B (fun s => Sub s a) t) (hs : Srt a.list) : t.n ≤ t.fresh B + sharedIn a t := by
  induction h with
  | nil => exact Nat.zero_le _
  | @old t h =>
    cases t with
    | nil => exact Nat.zero_le _
    | node p k v l r =>
      have := T.find_sub h hs
      simp only [sharedIn, this, if_true]
      omega
  | @new p k v l r hp _ _ ihl ihr =>
    have := shared_node a p k v l r
    rw [T.fresh_new hp]
    simp only [T.n]
    omega
theorem Built.few2 {B : Nat} {a b t : T} (h : Built B (fun s => Sub s a ∨ Sub s b) t) (ha : Srt a.list) (hb : Srt b.list) : t.n ≤ t.fresh B + sharedIn a t + sharedIn b t := by
  induction h with
  | nil => exact Nat.zero_le _
  | @old t h =>
    cases t with
    | nil => exact Nat.zero_le _
    | node p k v l r =>
      rcases h with h | h
      · have := T.find_sub h ha
        have e : sharedIn a (T.node p k v l r) = (T.node p k v l r).n := by rw [sharedIn, if_pos this]
        omega
      · have := T.find_sub h hb
        have e : sharedIn b (T.node p k v l r) = (T.node p k v l r).n := by rw [sharedIn, if_pos this]
        omega
  | @new p k v l r hp _ _ ihl ihr =>
    have h1 := shared_node a p k v l r
    have h2 := shared_node b p k v l r
    rw [T.fresh_new hp]
    simp only [T.n]
    omega
theorem down_sub2 (a b : T) : Down (fun t => Sub t a ∨ Sub t b) := fun p k v l r h => by
  rcases h with h | h
  · exact ⟨.inl (down_sub a p k v l r h).1, .inl (down_sub a p k v l r h).2⟩
  · exact ⟨.inr (down_sub b p k v l r h).1, .inr (down_sub b p k v l r h).2⟩

/-- Fibonacci's, as the statement reckons them. -/
def fibP : Nat → Nat × Nat
  | 0 => (1, 1)
  | n + 1 => ((fibP n).2, (fibP n).1 + (fibP n).2)
theorem fib_step (n : Nat) : (fibP (n + 2)).2 = (fibP n).2 + (fibP (n + 1)).2 := by simp [fibP]
theorem fib_mono (n : Nat) : (fibP n).2 ≤ (fibP (n + 1)).2 := by simp [fibP]
theorem fib_low : ∀ t : T, t.bal → (fibP t.h).2 ≤ t.n + 1
  | .nil, _ => by simp [fibP, T.h, T.n]
  | .node p k v l r, ⟨b1, b2, b3, b4⟩ => by
    have h1 := fib_low l b3
    have h2 := fib_low r b4
    have hh : (T.node p k v l r).h = max l.h r.h + 1 := rfl
    have hn : (T.node p k v l r).n = l.n + r.n + 1 := rfl
    rw [hh, hn]
    rcases Nat.lt_trichotomy l.h r.h with h | h | h
    · obtain ⟨m, hm⟩ : ∃ m, m = l.h := ⟨_, rfl⟩
      have e : r.h = m + 1 := by omega
      rw [← hm] at h1
      rw [e] at h2
      rw [show max l.h r.h + 1 = m + 2 by omega, fib_step]
      omega
    · rw [show max l.h r.h + 1 = l.h + 1 by omega]
      rw [← h] at h2
      have := fib_mono l.h
      cases hl : l.h with
      | zero => rw [hl] at h1 h2; simp [fibP] at h1 h2 ⊢ <;> omega
      | succ m =>
        rw [hl] at h1 h2
        rw [fib_step]
        have := fib_mono m
        omega
    · obtain ⟨m, hm⟩ : ∃ m, m = r.h := ⟨_, rfl⟩
      have e : l.h = m + 1 := by omega
      rw [← hm] at h2
      rw [e] at h1
      rw [show max l.h r.h + 1 = m + 2 by omega, fib_step]
      omega
theorem fib_up {a b : Nat} (h : a ≤ b) : (fibP a).2 ≤ (fibP b).2 := by
  induction h with
  | refl => exact Nat.le_refl _
  | step _ ih => exact Nat.le_trans ih (fib_mono _)
theorem low60 {t : T} (hb : t.bal) (hn : t.n ≤ 100000) : t.h ≤ 60 := by
  refine Nat.not_lt.1 (fun h => ?_)
  have h1 := fib_low t hb
  have h2 := fib_up (show 30 ≤ t.h by omega)
  have h3 : (fibP 30).2 = 2178309 := by decide
  omega
end Go.Proofs.Ytckkoigghkgfdaa
