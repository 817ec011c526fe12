/-
  WHAT TAKE AND SPLIT MAKE, PLAINLY; which nodes two maps share; how high a balanced tree is.
  BOTH ENDS OF A TREE, and whether keys fit beside a key: end, fits.
  PUT, TAKE AND SPLIT, as the program has them; whether keys fit beside a key.
  A KEY LOOKED FOR: find, seek with its closure; Get.
  PUT, TAKE AND SPLIT, as the program has them; whether keys fit beside a key.
  SPLIT, as the program has it; whether keys fit beside a key.
  MAPS, as the program has them: Len, Height, Root, Same, Map, Get, First, Last, Put, Take, Split, Join, Make.
  MAPS, as the program has them: Get, First, Last, Put, Take, Split, Join, Make.
-/
import Derived.Test.YtkkpdgfllnbigaaGreatMg4
import Derived.Scope
import Derived.Deep.LoopGhost
import Derived.OwnWalk
namespace Go.Proofs.YtkkpdgfllnbigaaGreat.Pm

/-- The least node, the greatest one. -/
def T.first : T → T
  | .nil => .nil
  | .node p k v .nil r => .node p k v .nil r
  | .node _ _ _ (.node p k v l r) _ => T.first (.node p k v l r)
def T.last : T → T
  | .nil => .nil
  | .node p k v l .nil => .node p k v l .nil
  | .node _ _ _ _ (.node p k v l r) => T.last (.node p k v l r)
theorem T.first_spec : ∀ {t : T}, t ≠ .nil → ∃ p k v r rest, t.first = .node p k v .nil r ∧ t.list = (k, v) :: rest ∧ Sub t.first t
  | .nil, h => (h rfl).elim
  | .node p k v .nil r, _ => ⟨p, k, v, r, r.list, rfl, rfl, .here⟩
  | .node p k v (.node p' k' v' l' r') r, _ => by
    obtain ⟨a, b, c, d, e, h1, h2, h3⟩ := T.first_spec (t := .node p' k' v' l' r') (by simp)
    refine ⟨a, b, c, d, e ++ (k, v) :: r.list, by rw [T.first]; exact h1, ?_, by rw [T.first]; exact .left h3⟩
    rw [T.list, h2]; rfl
theorem T.last_spec : ∀ {t : T}, t ≠ .nil → ∃ p k v l rest, t.last = .node p k v l .nil ∧ t.list = rest ++ [(k, v)] ∧ Sub t.last t
  | .nil, h => (h rfl).elim
  | .node p k v l .nil, _ => ⟨p, k, v, l, l.list, rfl, by simp [T.list], .here⟩
  | .node p k v l (.node p' k' v' l' r'), _ => by
    obtain ⟨a, b, c, d, e, h1, h2, h3⟩ := T.last_spec (t := .node p' k' v' l' r') (by simp)
    refine ⟨a, b, c, d, l.list ++ (k, v) :: e, by rw [T.last]; exact h1, ?_, by rw [T.last]; exact .right h3⟩
    rw [T.list, h2]; simp

/-- take. -/
inductive Takes (B : Nat) : ByteArray → T → T → Prop where
  | none {k} : Takes B k .nil .nil
  | left {k p nk nv l r l' t} (hc : cmpB k nk = -1) (h : Takes B k l l') (hj : Joins B p nk nv l r l' r t) : Takes B k (.node p nk nv l r) t
  | right {k p nk nv l r r' t} (hc : cmpB k nk = 1) (h : Takes B k r r') (hj : Joins B p nk nv l r l r' t) : Takes B k (.node p nk nv l r) t
  | onlyR {k p nk nv r} (hc : cmpB k nk = 0) : Takes B k (.node p nk nv .nil r) r
  | onlyL {k p nk nv l} (hc : cmpB k nk = 0) (hl : l ≠ .nil) : Takes B k (.node p nk nv l .nil) l
  | both {k p nk nv l r fp fk fv fr r' t} (hc : cmpB k nk = 0) (hl : l ≠ .nil) (hr : r ≠ .nil) (hf : r.first = .node fp fk fv .nil fr) (h : Takes B fk r r') (hj : Joins B fp fk fv .nil fr l r' t) : Takes B k (.node p nk nv l r) t
theorem Takes.mono {B B' k t t'} (h : Takes B' k t t') (hB : B ≤ B') : Takes B k t t' := by
  induction h with
  | none => exact .none
  | left hc _ hj ih => exact .left hc ih (hj.mono hB)
  | right hc _ hj ih => exact .right hc ih (hj.mono hB)
  | onlyR hc => exact .onlyR hc
  | onlyL hc hl => exact .onlyL hc hl
  | both hc hl hr hf _ hj ih => exact .both hc hl hr hf ih (hj.mono hB)
theorem Takes.list {B k t t'} (h : Takes B k t t') : Srt t.list → t'.list = del k t.list := by
  induction h with
  | none => intro _; simp [T.list, del, has, pos]
  | @left k p nk nv l r l' t hc _ hj ih =>
    intro hs
    have hs' := Srt.app.1 hs
    rw [hj.list, ih hs'.1]
    exact (del_left (x := (nk, nv)) hc _ _).symm
  | @right k p nk nv l r r' t hc _ hj ih =>
    intro hs
    obtain ⟨s1, s2, s3, s4⟩ := Srt.app.1 hs
    have hnk : cmpB nk k = -1 := by have := ord_B.anti k nk; omega
    rw [hj.list, ih s2]
    have : (T.node p nk nv l r).list = (l.list ++ [(nk, nv)]) ++ r.list := by simp [T.list]
    rw [this, del_right]
    · simp
    · intro y hy
      simp only [List.mem_append, List.mem_singleton] at hy
      rcases hy with hy | rfl
      · exact ord_B.trans _ _ _ (s3 y hy) hnk
      · exact hnk
  | @onlyR k p nk nv r hc =>
    intro hs
    have := ord_B.eq _ _ hc
    subst this
    exact (del_same (a := []) (by simp)).symm
  | @onlyL k p nk nv l hc hl =>
    intro hs
    obtain ⟨s1, s2, s3, s4⟩ := Srt.app.1 hs
    have := ord_B.eq _ _ hc
    subst this
    have := del_same (u := nv) (b := []) s3
    rw [List.append_nil] at this
    exact this.symm
  | @both k p nk nv l r fp fk fv fr r' t hc hl hr hf _ hj ih =>
    intro hs
    obtain ⟨s1, s2, s3, s4⟩ := Srt.app.1 hs
    have := ord_B.eq _ _ hc
    subst this
    obtain ⟨p', k', v', r2, rest, h1, h2, _⟩ := T.first_spec hr
    rw [hf] at h1
    simp only [T.node.injEq] at h1
    obtain ⟨_, rfl, rfl, _, _⟩ := h1
    rw [hj.list, ih s2, h2]
    have e1 : del fk ((fk, fv) :: rest) = rest := del_same (a := []) (by simp)
    rw [e1, T.list, h2]
    exact (del_same s3).symm
structure TakeSays (B : Nat) (k : ByteArray) (t t' : T) : Prop where
  bal : t'.bal
  hi : t'.h ≤ t.h
  lo : t.h ≤ t'.h + 1
  fr : t'.fresh B ≤ 3 * t.h
  gone : has k t.list = false → t' = t
theorem Takes.says {B k t t'} (h : Takes B k t t') : Srt t.list → t.bal → t.under B → TakeSays B k t t' := by
  induction h with
  | none => intro _ _ _; exact ⟨trivial, Nat.le_refl _, by simp [T.h], by simp [T.fresh], fun _ => rfl⟩
  | @left k p nk nv l r l' t hc _ hj ih =>
    intro hs hb hu
    have fu := T.under_fresh hu
    obtain ⟨s1, s2, s3, s4⟩ := Srt.app.1 hs
    obtain ⟨b1, b2, b3, b4⟩ := hb
    obtain ⟨u1, u2, u3⟩ := hu
    obtain ⟨P1, P2, P3, P4, P5⟩ := ih s1 b3 u2
    have f0 := T.under_fresh u3
    have hh : (T.node p nk nv l r).h = max l.h r.h + 1 := rfl
    rcases hj with ⟨rfl, _, rfl⟩ | ⟨hne, hJ⟩
    · exact ⟨⟨b1, b2, b3, b4⟩, Nat.le_refl _, by omega, by omega, fun _ => rfl⟩
    · have J := hJ.says P1 b4
      have J1 := J.lo
      have J2 := J.hi
      have J3 := J.near
      have J4 := J.fr
      refine ⟨J.bal, by omega, by omega, by omega, fun g => ?_⟩
      have hhas : has k (T.node p nk nv l r).list = has k l.list := has_left (x := (nk, nv)) hc _ _
      exact (hne ⟨P5 (hhas ▸ g), rfl⟩).elim
  | @right k p nk nv l r r' t hc _ hj ih =>
    intro hs hb hu
    have fu := T.under_fresh hu
    obtain ⟨s1, s2, s3, s4⟩ := Srt.app.1 hs
    obtain ⟨b1, b2, b3, b4⟩ := hb
    obtain ⟨u1, u2, u3⟩ := hu
    obtain ⟨P1, P2, P3, P4, P5⟩ := ih s2 b4 u3
    have f0 := T.under_fresh u2
    have hh : (T.node p nk nv l r).h = max l.h r.h + 1 := rfl
    have hnk : cmpB nk k = -1 := by have := ord_B.anti k nk; omega
    rcases hj with ⟨_, rfl, rfl⟩ | ⟨hne, hJ⟩
    · exact ⟨⟨b1, b2, b3, b4⟩, Nat.le_refl _, by omega, by omega, fun _ => rfl⟩
    · have J := hJ.says b3 P1
      have J1 := J.lo
      have J2 := J.hi
      have J3 := J.near
      have J4 := J.fr
      refine ⟨J.bal, by omega, by omega, by omega, fun g => ?_⟩
      have hhas : has k (T.node p nk nv l r).list = has k r.list := by
        have : (T.node p nk nv l r).list = (l.list ++ [(nk, nv)]) ++ r.list := by simp [T.list]
        rw [this, has_right]
        intro y hy
        simp only [List.mem_append, List.mem_singleton] at hy
        rcases hy with hy | rfl
        · exact ord_B.trans _ _ _ (s3 y hy) hnk
        · exact hnk
      exact (hne ⟨rfl, P5 (hhas ▸ g)⟩).elim
  | @onlyR k p nk nv r hc =>
    intro hs hb hu
    have f0 := T.under_fresh hu.2.2
    have hh : (T.node p nk nv .nil r).h = max 0 r.h + 1 := rfl
    have := ord_B.eq _ _ hc
    subst this
    exact ⟨hb.2.2.2, by omega, by omega, by omega, fun g => by have := (pos_same (v := nv) (b := r.list) (a := []) (k := k) (by simp)).2; rw [T.list, T.list, this] at g; cases g⟩
  | @onlyL k p nk nv l hc hl =>
    intro hs hb hu
    have f0 := T.under_fresh hu.2.1
    have hh : (T.node p nk nv l .nil).h = max l.h 0 + 1 := rfl
    obtain ⟨s1, s2, s3, s4⟩ := Srt.app.1 hs
    have := ord_B.eq _ _ hc
    subst this
    exact ⟨hb.2.2.1, by omega, by omega, by omega, fun g => by have := (pos_same (v := nv) (b := []) s3).2; rw [T.list, T.list, this] at g; cases g⟩
  | @both k p nk nv l r fp fk fv fr r' t hc hl hr hf _ hj ih =>
    intro hs hb hu
    obtain ⟨s1, s2, s3, s4⟩ := Srt.app.1 hs
    obtain ⟨b1, b2, b3, b4⟩ := hb
    obtain ⟨u1, u2, u3⟩ := hu
    obtain ⟨P1, P2, P3, P4, P5⟩ := ih s2 b4 u3
    have f0 := T.under_fresh u2
    have hh : (T.node p nk nv l r).h = max l.h r.h + 1 := rfl
    have := ord_B.eq _ _ hc
    subst this
    rcases hj with ⟨e, _⟩ | ⟨hne, hJ⟩
    · exact (hl e).elim
    · have J := hJ.says b3 P1
      have J1 := J.lo
      have J2 := J.hi
      have J3 := J.near
      have J4 := J.fr
      exact ⟨J.bal, by omega, by omega, by omega, fun g => by have := (pos_same (v := nv) (b := r.list) s3).2; rw [T.list, this] at g; cases g⟩

/-- split. -/
inductive Splits (B : Nat) (k : ByteArray) : T → T → T → T → Prop where
  | none : Splits B k .nil .nil .nil .nil
  | left {p nk nv l r a f b t} (hc : cmpB k nk = -1) (h : Splits B k l a f b) (hj : Joins B p nk nv l r b r t) : Splits B k (.node p nk nv l r) a f t
  | right {p nk nv l r a f b t} (hc : cmpB k nk = 1) (h : Splits B k r a f b) (hj : Joins B p nk nv l r l a t) : Splits B k (.node p nk nv l r) t f b
  | same {p nk nv l r} (hc : cmpB k nk = 0) : Splits B k (.node p nk nv l r) l (.node p nk nv l r) r
theorem Splits.mono {B B' k t a f b} (h : Splits B' k t a f b) (hB : B ≤ B') : Splits B k t a f b := by
  induction h with
  | none => exact .none
  | left hc _ hj ih => exact .left hc ih (hj.mono hB)
  | right hc _ hj ih => exact .right hc ih (hj.mono hB)
  | same hc => exact .same hc
theorem Joins.bal {B p k v nl nr l r t} (h : Joins B p k v nl nr l r t) (hn : (T.node p k v nl nr).bal) (hl : l.bal) (hr : r.bal) : t.bal := by
  rcases h with ⟨_, _, rfl⟩ | ⟨_, h⟩
  · exact hn
  · exact (h.says hl hr).bal
theorem Splits.bal {B k t a f b} (h : Splits B k t a f b) : t.bal → a.bal ∧ b.bal := by
  induction h with
  | none => exact fun _ => ⟨trivial, trivial⟩
  | left hc _ hj ih => exact fun hb => ⟨(ih hb.2.2.1).1, hj.bal hb (ih hb.2.2.1).2 hb.2.2.2⟩
  | right hc _ hj ih => exact fun hb => ⟨hj.bal hb hb.2.2.1 (ih hb.2.2.2).1, (ih hb.2.2.2).2⟩
  | same hc => exact fun hb => ⟨hb.2.2.1, hb.2.2.2⟩
theorem Splits.sub {B k t a f b} (h : Splits B k t a f b) : f = .nil ∨ Sub f t := by
  induction h with
  | none => exact .inl rfl
  | left _ _ _ ih => exact ih.imp id .left
  | right _ _ _ ih => exact ih.imp id .right
  | same _ => exact .inr .here
/-- The keys below, the one, those above. -/
theorem Splits.list {B k t a f b} (h : Splits B k t a f b) : Srt t.list → a.list = t.list.take (pos k t.list) ∧ b.list = t.list.drop (if has k t.list then pos k t.list + 1 else pos k t.list) ∧ (has k t.list = false → f = .nil) ∧ (has k t.list = true → f ≠ .nil ∧ t.list[pos k t.list]? = some (k, f.val)) := by
  induction h with
  | none => intro _; simp [T.list, pos, has]
  | @left p nk nv l r a f b t hc _ hj ih =>
    intro hs
    obtain ⟨s1, s2, s3, s4⟩ := Srt.app.1 hs
    obtain ⟨i1, i2, i3, i4⟩ := ih s1
    have hp : pos k (T.node p nk nv l r).list = pos k l.list := pos_left (x := (nk, nv)) (by simp only; omega) _ _
    have hh : has k (T.node p nk nv l r).list = has k l.list := has_left (x := (nk, nv)) hc _ _
    have hpl := pos_le k l.list
    rw [hp, hh]
    refine ⟨?_, ?_, i3, fun g => ?_⟩
    · rw [i1]; exact (List.take_append_of_le_length hpl).symm
    · rw [hj.list, i2]
      refine (List.drop_append_of_le_length ?_).symm
      split
      · rename_i g
        obtain ⟨v', hv'⟩ := has_mem g
        exact (List.getElem?_eq_some_iff.1 hv').1
      · exact hpl
    · obtain ⟨j1, j2⟩ := i4 g
      exact ⟨j1, (List.getElem?_append_left (List.getElem?_eq_some_iff.1 j2).1).trans j2⟩
  | @right p nk nv l r a f b t hc _ hj ih =>
    intro hs
    obtain ⟨s1, s2, s3, s4⟩ := Srt.app.1 hs
    obtain ⟨i1, i2, i3, i4⟩ := ih s2
    have hnk : cmpB nk k = -1 := by have := ord_B.anti k nk; omega
    have e : (T.node p nk nv l r).list = (l.list ++ [(nk, nv)]) ++ r.list := by simp [T.list]
    have hall : ∀ y ∈ l.list ++ [(nk, nv)], cmpB y.1 k = -1 := by
      intro y hy
      simp only [List.mem_append, List.mem_singleton] at hy
      rcases hy with hy | rfl
      · exact ord_B.trans _ _ _ (s3 y hy) hnk
      · exact hnk
    rw [e, pos_right hall, has_right hall]
    refine ⟨?_, ?_, i3, fun g => ?_⟩
    · rw [hj.list, i1, List.take_length_add_append]; simp
    · have : (if has k r.list = true then (l.list ++ [(nk, nv)]).length + pos k r.list + 1 else (l.list ++ [(nk, nv)]).length + pos k r.list) = (l.list ++ [(nk, nv)]).length + (if has k r.list = true then pos k r.list + 1 else pos k r.list) := by split <;> omega
      rw [this, List.drop_length_add_append, i2]
    · obtain ⟨j1, j2⟩ := i4 g
      exact ⟨j1, by rw [List.getElem?_append_right (by omega), Nat.add_sub_cancel_left]; exact j2⟩
  | @same p nk nv l r hc =>
    intro hs
    obtain ⟨s1, s2, s3, s4⟩ := Srt.app.1 hs
    have := ord_B.eq _ _ hc
    subst this
    obtain ⟨h1, h2⟩ := pos_same (v := nv) (b := r.list) s3
    rw [T.list, h1, h2]
    refine ⟨by simp, by simp, ⟨fun g => (by cases g), fun _ => ⟨by simp, by simp [T.val]⟩⟩⟩

/-- The node of a key. -/
def T.find (k : ByteArray) : T → T
  | .nil => .nil
  | .node p nk nv l r => if cmpB k nk = -1 then l.find k else if cmpB k nk = 1 then r.find k else .node p nk nv l r
/-- How many nodes of t are nodes of a, as the program counts them. -/
def sharedIn (a : T) : T → Nat
  | .nil => 0
  | .node p k v l r => if a.find k = .node p k v l r then (T.node p k v l r).n else sharedIn a l + sharedIn a r
theorem Sub.mem {s t : T} (h : Sub s t) : ∀ x ∈ s.list, x ∈ t.list := by
  induction h with
  | here => exact fun _ h => h
  | left _ ih => intro x hx; simp only [T.list, List.mem_append]; exact .inl (ih x hx)
  | right _ ih => intro x hx; simp only [T.list, List.mem_append, List.mem_cons]; exact .inr (.inr (ih x hx))
theorem T.find_sub {a : T} {p k v l r} (h : Sub (.node p k v l r) a) : Srt a.list → a.find k = .node p k v l r := by
  induction h with
  | here => intro _; simp [T.find, ord_B.refl]
  | @left p' k' v' l' r' h ih =>
    intro hs
    obtain ⟨s1, s2, s3, s4⟩ := Srt.app.1 hs
    have := s3 (k, v) (h.mem (k, v) (by simp [T.list]))
    simp only at this
    simp only [T.find, this, if_true]
    exact ih s1
  | @right p' k' v' l' r' h ih =>
    intro hs
    obtain ⟨s1, s2, s3, s4⟩ := Srt.app.1 hs
    have h1 := s4 (k, v) (h.mem (k, v) (by simp [T.list]))
    simp only at h1
    have h2 : cmpB k k' = 1 := by have := ord_B.anti k k'; omega
    simp only [T.find, h2, if_true]
    exact ih s2
theorem shared_le (a : T) : ∀ t : T, sharedIn a t ≤ t.n
  | .nil => Nat.le_refl _
  | .node p k v l r => by
    have h1 := shared_le a l
    have h2 := shared_le a r
    simp only [sharedIn, T.n]
    split <;> omega
theorem shared_node (a : T) (p k v l r) : sharedIn a l + sharedIn a r ≤ sharedIn a (T.node p k v l r) := by
  have h1 := shared_le a l
  have h2 := shared_le a r
  simp only [sharedIn, T.n]
  split <;> omega
theorem Built.few {B : Nat} {a t : T} (h : Built B (fun s => Sub s a) t) (hs : Srt a.list) : t.n ≤ t.fresh B + sharedIn a t := by
  induction h with
  | nil => exact Nat.zero_le _
  | @old t h =>
    cases t with
    | nil => exact Nat.zero_le _
    | node p k v l r =>
      have := T.find_sub h hs
      simp only [sharedIn, this, if_true]
      omega
  | @new p k v l r hp _ _ ihl ihr =>
    have := shared_node a p k v l r
    rw [T.fresh_new hp]
    simp only [T.n]
    omega
end Go.Proofs.YtkkpdgfllnbigaaGreat.Pm
namespace Go.Proofs.YtkkpdgfllnbigaaGreat.Pm
open Go.RowKit Go.Shelf
set_option linter.unusedSimpArgs false

theorem In.sub {w : World} {s t : T} (h : Sub s t) : In w t → In w s := by
  induction h with
  | here => exact id
  | left _ ih => exact fun h => ih h.2.1
  | right _ ih => exact fun h => ih h.2.2
theorem last_right {p k v l r} : (T.node p k v l r).last = if r = .nil then .node p k v l r else r.last := by
  cases r with
  | nil => simp [T.last]
  | node => simp [T.last]
theorem ptr_nil {t : T} : t.ptr = .pointer none ↔ t = .nil := by cases t <;> simp [T.ptr]

set_option maxHeartbeats 1000000 in
theorem end_right (t : T) (w : World) (h : In w t) : Calls Tryz.prog 190 #[t.ptr, .func (.func 191) #[] #[]] w fun e w' => e = .returned t.last.ptr ∧ w' = w := by
  have hL : ∀ s, In w s → Calls Tryz.prog 191 #[s.ptr] w fun e w' => e = .returned s.right.ptr ∧ w' = w := fun s hs => right_any s w hs
  have h0 := hL t h
  obtain ⟨a, ha⟩ := t.ptr_shape
  obtain ⟨b, hb⟩ := t.right.ptr_shape
  rw [ha, hb] at h0
  rw [ha]
  have H := hide (And.intro ha hb)
  have HL := hide hL
  have HT := hide h
  clear h ha hb hL
  go_enter Tryz.func190, Tryz.ntmps190
  go_wp2_with (go_at_call 191; refine h0.mono ?_; rintro e w' ⟨rfl, hw⟩; replace hw := hw.symm; subst hw)
  go_loopg [0, 5] t.h (fun k v0 v5 wr => ∃ (s : T) (a b : Option Addr), v0 = .pointer a ∧ v5 = .pointer b ∧ Hid (s.ptr = .pointer a ∧ s.right.ptr = .pointer b ∧ In w s ∧ s.last = t.last ∧ s.h = k) ∧ wr = w)
  case atStart => exact ⟨t, a, b, rfl, rfl, hide ⟨H.out.1, H.out.2, HT.out, rfl, rfl⟩, rfl⟩
  case round =>
    obtain ⟨s, a, b, rfl, rfl, HS, rfl⟩ := hrel
    cases b with
    | none =>
      have e1 : s.right = .nil := ptr_nil.1 HS.out.2.1
      have e2 : s.last = s := by
        cases s with
        | nil => rfl
        | node p k v l r => rw [last_right, if_pos (by simpa [T.right] using e1)]
      have HE := hide (show t.last.ptr = .pointer a by rw [← HS.out.2.2.2.1, e2]; exact HS.out.1)
      clear e1 e2
      go_wp2
      go_ret
      exact ⟨by rw [HE.out]; rfl, rfl⟩
    | some b =>
      have e1 : s.right ≠ .nil := fun e => by have := HS.out.2.1; rw [e] at this; cases this
      obtain ⟨p, k, v, l, r, rfl⟩ : ∃ p k v l r, s = .node p k v l r := by
        cases s with
        | nil => exact (e1 rfl).elim
        | node p k v l r => exact ⟨_, _, _, _, _, rfl⟩
      have hl := HL.out r (HS.out.2.2.1.2.2)
      have e3 : r.ptr = .pointer (some b) := HS.out.2.1
      have e4 : r.last = t.last := by rw [← HS.out.2.2.2.1, last_right, if_neg (by simpa [T.right] using e1)]
      have e5 : r.h < gk := by have := HS.out.2.2.2.2; rw [T.h_node] at this; omega
      have e6 : In wr r := HS.out.2.2.1.2.2
      obtain ⟨c, hc⟩ := r.right.ptr_shape
      rw [e3, hc] at hl
      have HX := hide (And.intro e3 (And.intro hc (And.intro e6 (And.intro e4 e5))))
      clear e1 e3 e4 e5 e6 hc
      go_wp2_with (go_at_call 191; refine hl.mono ?_; rintro e w' ⟨rfl, hw⟩; replace hw := hw.symm; subst hw)
      go_roundg r.h
      case measure => exact HX.out.2.2.2.2
      case rel => exact ⟨r, _, _, rfl, rfl, hide ⟨HX.out.1, HX.out.2.1, HX.out.2.2.1, HX.out.2.2.2.1, rfl⟩, rfl⟩
end Go.Proofs.YtkkpdgfllnbigaaGreat.Pm
namespace Go.Proofs.YtkkpdgfllnbigaaGreat.Pm
open Go.RowKit Go.Shelf
set_option linter.unusedSimpArgs false

theorem Joins.n {B p k v nl nr l r t} (h : Joins B p k v nl nr l r t) : t.n = l.n + r.n + 1 := by
  rw [← T.n_eq, h.list, List.length_append, List.length_cons, T.n_eq, T.n_eq]; omega
theorem Puts.n {B k v t t'} (h : Puts B k v t t') : t'.n ≤ t.n + 1 := by
  induction h with
  | none => simp [T.n]
  | left _ _ hj ih => rw [hj.n]; simp only [T.n]; omega
  | right _ _ hj ih => rw [hj.n]; simp only [T.n]; omega
  | same => simp only [T.n]; omega
theorem Takes.n {B k t t'} (h : Takes B k t t') : t'.n ≤ t.n := by
  induction h with
  | none => exact Nat.le_refl _
  | left _ _ hj ih => rw [hj.n]; simp only [T.n]; omega
  | right _ _ hj ih => rw [hj.n]; simp only [T.n]; omega
  | onlyR => simp only [T.n]; omega
  | onlyL => simp only [T.n]; omega
  | both _ _ _ _ _ hj ih => rw [hj.n]; simp only [T.n]; omega
theorem Splits.n {B k t a f b} (h : Splits B k t a f b) : a.n ≤ t.n ∧ b.n ≤ t.n := by
  induction h with
  | none => exact ⟨Nat.le_refl _, Nat.le_refl _⟩
  | left _ _ hj ih => rw [hj.n]; simp only [T.n]; omega
  | right _ _ hj ih => rw [hj.n]; simp only [T.n]; omega
  | same => simp only [T.n]; omega
theorem compare_B (a b : ByteArray) (w : World) : Calls Tryz.prog 128 #[.string a, .string b] w fun e w' => e = .returned (.int .i64 (cmpB a b)) ∧ w' = w := Tryz.strings_Compare a b w
theorem compare_is {a b : ByteArray} {c : Int} (h : cmpB a b = c) (w : World) : Calls Tryz.prog 128 #[.string a, .string b] w fun e w' => e = .returned (.int .i64 c) ∧ w' = w := h ▸ compare_B a b w

set_option maxHeartbeats 4000000 in
set_option maxRecDepth 100000 in
theorem put_any (k : ByteArray) (v : ByteArray) (t : T) : ∀ (w : World), In w t → t.n ≤ 700000 →
    Calls Tryz.prog 118 #[t.ptr, .string k, .string v] w fun e w' => ∃ t', Gives w e w' t' ∧ Puts w.heap.size k v t t' := by
  induction t with
  | nil =>
    intro w h _
    have hm := made_any .nil .nil k v w trivial trivial (by decide)
    simp only [T.ptr] at hm ⊢
    go_enter Tryz.func118, Tryz.ntmps118
    go_wp2_with (go_at_call 168; refine hm.mono ?_; rintro e w' ⟨rfl, hg, hb⟩)
    go_ret
    exact ⟨_, ⟨rfl, hg, hb⟩, .none (Nat.le_refl _)⟩
  | node p nk nv l r ihl ihr =>
    intro w h hn
    obtain ⟨c0, c1, c2, c3, c4, c5⟩ := h.cells
    rcases ord_B.range k nk with hc | hc | hc
    · have hcc : cmpB k nk = -1 := hc
      have hcmp := fun W => compare_is hcc W
      have b1 : ∀ W, Below w.heap.size w W → Calls Tryz.prog 118 #[l.ptr, .string k, .string v] W fun e w' => ∃ t', Gives W e w' t' ∧ Puts W.heap.size k v l t' := fun W hW => ihl W (In.below hW h.2.1) (by simp only [T.n] at hn; omega)
      have b2 : ∀ W l', Below w.heap.size w W → In W l' → l'.n ≤ l.n + 1 → Calls Tryz.prog 172 #[.pointer (some ⟨p, 0, none⟩), l'.ptr, r.ptr] W fun e w' => ∃ t, Gives W e w' t ∧ Joins W.heap.size p nk nv l r l' r t := fun W l' hW hi hnn => joining_any l' r W (In.below hW h) hi (In.below hW h.2.2) (by simp only [T.n] at hn; omega)
      have HF := hide (show ∀ l' t B C, w.heap.size ≤ B → w.heap.size ≤ C → Puts B k v l l' → Joins C p nk nv l r l' r t → Puts w.heap.size k v (.node p nk nv l r) t from fun _ _ _ _ hB hC hp hj => .left hcc (hp.mono hB) (hj.mono hC))
      obtain ⟨al, hal⟩ := l.ptr_shape
      obtain ⟨ar, har⟩ := r.ptr_shape
      rw [hal] at c2
      rw [har] at c3
      rw [node_ptr]
      simp only [hal] at b1
      simp only [har] at b2
      have hS : w.cell? ⟨p, 2, none⟩ = some (.pointer al) ∧ w.cell? ⟨p, 3, none⟩ = some (.pointer ar) := ⟨c2, c3⟩
      have tk1 : True := trivial
      have hB0 : Below w.heap.size w w := Below.refl _ w
      clear h hn hc hcc hal har c1 c2 c3 c4 c5 ihl ihr
      go_enter Tryz.func118, Tryz.ntmps118
      go_wp2_with (go_at_call 128; refine (hcmp _).mono ?_; rintro e w' ⟨rfl, hw⟩; replace hw := hw.symm; subst hw)
      go_region_held3 (fun w' => w'.cell? ⟨p, 2, none⟩ = some (.pointer al) ∧ w'.cell? ⟨p, 3, none⟩ = some (.pointer ar)) (first | exact hS | exact keep2 hS (by assumption) | exact keep2 (by assumption) (by assumption))
        (first
          | (go_at_call 118; clear tk1; refine (b1 _ hB0.drew).mono ?_; rintro e w1 ⟨m, hg, hj⟩; have he := hg.1; have hb1 := hg.2.2; have HI1 := hide hg.2.1; have hmn := hj.n; have HJ := hide hj; clear hg hj; obtain ⟨am, ham⟩ := m.ptr_shape; rw [ham] at he; subst he; have hB1 := hB0.drew.trans (hb1.mono hB0.size); have hb22 := b2 w1 m hB1 HI1.out (by omega); rw [ham] at hb22)
          | (go_at_call 172; refine hb22.mono ?_; rintro e w2 ⟨t, hg, hs⟩; have he := hg.1; have hb2 := hg.2.2; have HI2 := hide hg.2.1; have HS := hide hs; clear hg hs; obtain ⟨at_, hat⟩ := t.ptr_shape; have HT := hide hat; rw [hat] at he; subst he; have hB2 := hB1.trans (hb2.mono hB1.size)))
      go_wp2
      go_ret
      exact ⟨t, ⟨by rw [HT.out]; rfl, HI2.out, hB2⟩, HF.out _ _ _ _ (Nat.le_refl _) hB1.size HJ.out HS.out⟩
    · have hcmp := fun W => compare_is hc W
      have hm := made_any l r k v w.drew h.2.1.drew h.2.2.drew (by simp only [T.n] at hn; omega)
      have hG : ∀ e w', Gives w.drew e w' (.node w.drew.heap.size k v l r) → Hid (∃ t', Gives w e w' t' ∧ Puts w.heap.size k v (.node p nk nv l r) t') ∧ e = .returned (.pointer (some ⟨w.heap.size, 0, none⟩)) ∧ Below w.heap.size w w' := fun e w' g => ⟨hide ⟨_, g.grow (Below.refl _ w).drew, .same hc (Nat.le_refl _)⟩, g.1, (g.grow (Below.refl _ w).drew).2.2⟩
      obtain ⟨al, hal⟩ := l.ptr_shape
      obtain ⟨ar, har⟩ := r.ptr_shape
      rw [hal] at c2 hm
      rw [har] at c3 hm
      rw [node_ptr]
      have hS : w.cell? ⟨p, 2, none⟩ = some (.pointer al) ∧ w.cell? ⟨p, 3, none⟩ = some (.pointer ar) := ⟨c2, c3⟩
      clear h hn hc hal har c1 c2 c3 c4 c5 ihl ihr
      go_enter Tryz.func118, Tryz.ntmps118
      go_wp2_with (go_at_call 128; refine (hcmp _).mono ?_; rintro e w' ⟨rfl, hw⟩; replace hw := hw.symm; subst hw)
      go_region_held3 (fun w' => w'.cell? ⟨p, 2, none⟩ = some (.pointer al) ∧ w'.cell? ⟨p, 3, none⟩ = some (.pointer ar)) (first | exact hS | exact keep2 hS (by assumption))
        (first | (go_at_call 168; refine hm.mono ?_; intro e w' hg; obtain ⟨HG, rfl, hb2⟩ := hG e w' hg))
      go_wp2
      go_ret
      exact HG.out
    · have hcc : cmpB k nk = 1 := hc
      have hcmp := fun W => compare_is hcc W
      have b1 : ∀ W, Below w.heap.size w W → Calls Tryz.prog 118 #[r.ptr, .string k, .string v] W fun e w' => ∃ t', Gives W e w' t' ∧ Puts W.heap.size k v r t' := fun W hW => ihr W (In.below hW h.2.2) (by simp only [T.n] at hn; omega)
      have b2 : ∀ W r', Below w.heap.size w W → In W r' → r'.n ≤ r.n + 1 → Calls Tryz.prog 172 #[.pointer (some ⟨p, 0, none⟩), l.ptr, r'.ptr] W fun e w' => ∃ t, Gives W e w' t ∧ Joins W.heap.size p nk nv l r l r' t := fun W r' hW hi hnn => joining_any l r' W (In.below hW h) (In.below hW h.2.1) hi (by simp only [T.n] at hn; omega)
      have HF := hide (show ∀ r' t B C, w.heap.size ≤ B → w.heap.size ≤ C → Puts B k v r r' → Joins C p nk nv l r l r' t → Puts w.heap.size k v (.node p nk nv l r) t from fun _ _ _ _ hB hC hp hj => .right hcc (hp.mono hB) (hj.mono hC))
      obtain ⟨al, hal⟩ := l.ptr_shape
      obtain ⟨ar, har⟩ := r.ptr_shape
      rw [hal] at c2
      rw [har] at c3
      rw [node_ptr]
      simp only [har] at b1
      simp only [hal] at b2
      have hS : w.cell? ⟨p, 2, none⟩ = some (.pointer al) ∧ w.cell? ⟨p, 3, none⟩ = some (.pointer ar) := ⟨c2, c3⟩
      have tk1 : True := trivial
      have hB0 : Below w.heap.size w w := Below.refl _ w
      clear h hn hc hcc hal har c1 c2 c3 c4 c5 ihl ihr
      go_enter Tryz.func118, Tryz.ntmps118
      go_wp2_with (go_at_call 128; refine (hcmp _).mono ?_; rintro e w' ⟨rfl, hw⟩; replace hw := hw.symm; subst hw)
      go_region_held3 (fun w' => w'.cell? ⟨p, 2, none⟩ = some (.pointer al) ∧ w'.cell? ⟨p, 3, none⟩ = some (.pointer ar)) (first | exact hS | exact keep2 hS (by assumption) | exact keep2 (by assumption) (by assumption))
        (first
          | (go_at_call 118; clear tk1; refine (b1 _ hB0.drew).mono ?_; rintro e w1 ⟨m, hg, hj⟩; have he := hg.1; have hb1 := hg.2.2; have HI1 := hide hg.2.1; have hmn := hj.n; have HJ := hide hj; clear hg hj; obtain ⟨am, ham⟩ := m.ptr_shape; rw [ham] at he; subst he; have hB1 := hB0.drew.trans (hb1.mono hB0.size); have hb22 := b2 w1 m hB1 HI1.out (by omega); rw [ham] at hb22)
          | (go_at_call 172; refine hb22.mono ?_; rintro e w2 ⟨t, hg, hs⟩; have he := hg.1; have hb2 := hg.2.2; have HI2 := hide hg.2.1; have HS := hide hs; clear hg hs; obtain ⟨at_, hat⟩ := t.ptr_shape; have HT := hide hat; rw [hat] at he; subst he; have hB2 := hB1.trans (hb2.mono hB1.size)))
      go_wp2
      go_ret
      exact ⟨t, ⟨by rw [HT.out]; rfl, HI2.out, hB2⟩, HF.out _ _ _ _ (Nat.le_refl _) hB1.size HJ.out HS.out⟩
end Go.Proofs.YtkkpdgfllnbigaaGreat.Pm
namespace Go.Proofs.YtkkpdgfllnbigaaGreat.Pm
open Go.RowKit Go.Shelf
set_option linter.unusedSimpArgs false

theorem In.drewN {w : World} {t : T} (h : In w t) (n : Nat) : In (w.drewN n) t := In.below (below_drew w n) h
theorem find_node {k : ByteArray} {p nk nv l r} : (T.node p nk nv l r).find k = if cmpB k nk = -1 then l.find k else if cmpB k nk = 1 then r.find k else .node p nk nv l r := rfl

end Go.Proofs.YtkkpdgfllnbigaaGreat.Pm
namespace Go.Proofs.YtkkpdgfllnbigaaGreat.Pm
open Go.RowKit Go.Shelf
set_option linter.unusedSimpArgs false


end Go.Proofs.YtkkpdgfllnbigaaGreat.Pm
namespace Go.Proofs.YtkkpdgfllnbigaaGreat.Pm
open Go.RowKit Go.Shelf
set_option linter.unusedSimpArgs false

end Go.Proofs.YtkkpdgfllnbigaaGreat.Pm
namespace Go.Proofs.YtkkpdgfllnbigaaGreat.Pm
open Go.RowKit Go.Shelf
set_option linter.unusedSimpArgs false

/-- A map's value. -/
def mv (t : T) : Value := .agg #[t.ptr]
theorem mLen_any (t : T) (w : World) (h : In w t) : Calls Tryz.prog 21 #[mv t] w fun e w' => e = .returned (.int .i64 (t.n : Nat)) ∧ Below w.heap.size w w' := by
  have hb : Below w.heap.size w (w.alloc (.cells #[t.ptr] 27)) := (Below.refl _ w).alloc (Nat.le_refl _) _
  have hs := len_any t _ (In.below hb h)
  unfold mv
  obtain ⟨a, ha⟩ := t.ptr_shape
  rw [ha] at hb hs ⊢
  generalize t.n = N at *
  clear h ha
  go_enter Tryz.func21, Tryz.ntmps21
  go_wp2_with (go_at_call 113; refine hs.mono ?_; rintro e w' ⟨rfl, rfl⟩)
  go_ret
  exact ⟨rfl, hb⟩
theorem cell_new (w : World) (x : Value) (t : TypeId) : (w.alloc (.cells #[x] t)).cell? ⟨w.heap.size, 0, none⟩ = some x := by
  rw [cell_of_row _ _ 0 _ t (0, 0) (heap_alloc_new w _)]; rfl
theorem Tryz.info27 : (Tryz.prog.info? 27).map (·.size) = some 1 := by kernel_rfl
end Go.Proofs.YtkkpdgfllnbigaaGreat.Pm
namespace Go.Proofs.YtkkpdgfllnbigaaGreat.Pm
open Go.RowKit Go.Shelf
set_option linter.unusedSimpArgs false

theorem In.find {w : World} (k : ByteArray) : ∀ {t : T}, In w t → In w (t.find k)
  | .nil, _ => trivial
  | .node p nk nv l r, h => by
    rw [find_node]
    split
    · exact In.find k h.2.1
    · split
      · exact In.find k h.2.2
      · exact h
def T.isSome : T → Bool
  | .nil => false
  | .node .. => true
theorem isSome_ptr {t : T} {a : Option Addr} (h : t.ptr = .pointer a) : a.isSome = t.isSome ∧ a.isNone = !t.isSome := by
  cases t with
  | nil => simp only [T.ptr, Value.pointer.injEq] at h; subst h; exact ⟨rfl, rfl⟩
  | node => simp only [T.ptr, Value.pointer.injEq] at h; subst h; exact ⟨rfl, rfl⟩
theorem told_any (t : T) (w : World) (h : In w t) : Calls Tryz.prog 189 #[t.ptr] w fun e w' => e = .returned (.tuple #[.string t.key, .string t.val, .bool t.isSome]) ∧ w' = w := by
  have h1 := key_any t w h
  have h2 := value_any t w h
  obtain ⟨a, ha⟩ := t.ptr_shape
  have hd := (isSome_ptr ha).2
  rw [ha] at h1 h2 ⊢
  generalize t.key = K at *
  generalize t.val = V at *
  generalize t.isSome = D at *
  clear h ha
  go_enter Tryz.func189, Tryz.ntmps189
  go_wp2_with (first
    | (go_at_call 233; refine h1.mono ?_; rintro e w' ⟨rfl, hw⟩; replace hw := hw.symm; subst hw)
    | (go_at_call 120; refine h2.mono ?_; rintro e w' ⟨rfl, hw⟩; replace hw := hw.symm; subst hw))
  go_ret3
  exact ⟨by simp, rfl⟩
theorem In.first {w : World} {t : T} (h : In w t) : In w t.first := by
  by_cases e : t = .nil
  · subst e; trivial
  · obtain ⟨_, _, _, _, _, _, _, hs⟩ := T.first_spec e
    exact In.sub hs h
theorem In.last {w : World} {t : T} (h : In w t) : In w t.last := by
  by_cases e : t = .nil
  · subst e; trivial
  · obtain ⟨_, _, _, _, _, _, _, hs⟩ := T.last_spec e
    exact In.sub hs h
/-- The blocks of a map that came in, and of the one that goes out. -/
theorem two_boxes (w : World) (x : Value) : Below w.heap.size w ((w.alloc (.cells #[x] 27)).alloc (.cells #[.pointer none] 27)) ∧ ((w.alloc (.cells #[x] 27)).alloc (.cells #[.pointer none] 27)).cell? ⟨w.heap.size + 1, 0, none⟩ = some (.pointer none) ∧ ((w.alloc (.cells #[x] 27)).alloc (.cells #[.pointer none] 27)).frozen? ⟨w.heap.size + 1, 0, none⟩ = false := by
  refine ⟨((Below.refl _ w).alloc (Nat.le_refl _) _).alloc (by simp) _, ?_, ?_⟩
  · simp
  · have := frozen_of_row ((w.alloc (.cells #[x] 27)).alloc (.cells #[.pointer none] 27)) (w.heap.size + 1) 0 #[.pointer none] 27 (new2 w _ _).2
    exact this
/-- What is stored into the block that goes out. -/
theorem out_box {w w1 : World} {B : Nat} {y : Value} (hw : w1.heap[B]? = some (.cells #[.pointer none] 27 (0, 0))) (hB : w.heap.size ≤ B) (hb : Below w.heap.size w w1) : (w1.setCell ⟨B, 0, none⟩ y).heap[B]? = some (.cells #[y] 27 (0, 0)) ∧ Below w.heap.size w (w1.setCell ⟨B, 0, none⟩ y) ∧ Only (fun j => j = B) w1 (w1.setCell ⟨B, 0, none⟩ y) := by
  refine ⟨?_, hb.setCell (p := ⟨B, 0, none⟩) hB y, (Only.ofGrown (grown_setCell w1 ⟨B, 0, none⟩ y)).mono (fun j _ e => by simpa using e.symm)⟩
  rw [heap_setCell_same _ _ _ _ 27 _ hw]
  simp
theorem In.only {C : Nat → Prop} {w w' : World} (h : Only C w w') : ∀ {t : T}, In w t → (∀ p, p < w.heap.size → C p → ¬ ∃ k v l r, Sub (.node p k v l r) t) → In w' t
  | .nil, _, _ => trivial
  | .node p k v l r, hi, hC => ⟨(h.block p hi.lt (fun c => hC p hi.lt c ⟨k, v, l, r, .here⟩)).trans hi.1, In.only h hi.2.1 (fun p' hp' c ⟨k', v', l', r', hs⟩ => hC p' hp' c ⟨k', v', l', r', .left hs⟩), In.only h hi.2.2 (fun p' hp' c ⟨k', v', l', r', hs⟩ => hC p' hp' c ⟨k', v', l', r', .right hs⟩)⟩
/-- A block that is no node's. -/
theorem In.aside {w w' : World} {B : Nat} {x : Value} (hw : w.heap[B]? = some (.cells #[x] 27 (0, 0))) (h : Only (fun j => j = B) w w') {t : T} (hi : In w t) : In w' t := by
  refine In.only h hi ?_
  rintro p hp rfl ⟨k, v, l, r, hs⟩
  have := (In.sub hs hi).1
  rw [hw] at this
  simp at this
set_option maxHeartbeats 1000000 in
theorem mPut_any (t : T) (k : ByteArray) (v : ByteArray) (w : World) (h : In w t) (hn : t.n ≤ 700000) : Calls Tryz.prog 25 #[mv t, .string k, .string v] w fun e w' => ∃ t', e = .returned (mv t') ∧ In w' t' ∧ Puts w.heap.size k v t t' ∧ Below w.heap.size w w' := by
  obtain ⟨hb, hc, hf⟩ := two_boxes w t.ptr
  have hB := (new2 w (.cells #[t.ptr] 27) (.cells #[.pointer none] 27)).2
  have hp := put_any k v t _ (In.below hb h) hn
  have key : ∀ w1 t', Gives ((w.alloc (.cells #[t.ptr] 27)).alloc (.cells #[.pointer none] 27)) (.returned t'.ptr) w1 t' → Puts ((w.alloc (.cells #[t.ptr] 27)).alloc (.cells #[.pointer none] 27)).heap.size k v t t' →
      w1.cell? ⟨w.heap.size + 1, 0, none⟩ = some (.pointer none) ∧ w1.frozen? ⟨w.heap.size + 1, 0, none⟩ = false ∧ Hid ((w1.setCell ⟨w.heap.size + 1, 0, none⟩ t'.ptr).heap[w.heap.size + 1]? = some (.cells #[t'.ptr] 27 (0, 0)) ∧ In (w1.setCell ⟨w.heap.size + 1, 0, none⟩ t'.ptr) t' ∧ Puts w.heap.size k v t t' ∧ Below w.heap.size w (w1.setCell ⟨w.heap.size + 1, 0, none⟩ t'.ptr)) := fun w1 t' hg hp => by
    have hw1 := (hg.2.2.block (w.heap.size + 1) (by simp)).trans hB
    have hb1 := hb.trans (hg.2.2.mono hb.size)
    obtain ⟨o1, o2, o3⟩ := out_box (y := t'.ptr) hw1 (by omega) hb1
    refine ⟨by rw [cell_of_row _ _ 0 _ 27 (0, 0) hw1]; rfl, frozen_of_row _ _ 0 _ 27 hw1, hide ⟨o1, In.aside hw1 o3 hg.2.1, hp.mono hb.size, o2⟩⟩
  unfold mv
  obtain ⟨a, ha⟩ := t.ptr_shape
  rw [ha] at hp hb key ⊢
  have HK := hide key
  clear h ha hb hc hf key hB hn
  go_enter Tryz.func25, Tryz.ntmps25
  go_wp2_with (go_at_call 118; refine hp.mono ?_; rintro e w1 ⟨t', hg, hpp⟩; have he := hg.1; subst he; obtain ⟨q1, q2, HQ⟩ := HK.out w1 t' hg hpp; obtain ⟨b, hb⟩ := t'.ptr_shape; have HX := hide hb; rw [hb] at HQ ⊢; clear hb hg hpp)
  refine ret_row (w.heap.size + 1) [.pointer b] rfl rfl Tryz.underlying27 rfl Tryz.info27 HQ.out.1 rfl ?_
  exact ⟨t', by rw [HX.out], HQ.out.2.1, HQ.out.2.2.1, HQ.out.2.2.2⟩
end Go.Proofs.YtkkpdgfllnbigaaGreat.Pm
