/-
  JOINING: both sides joined with a node's key and value; of its own sides the node itself. Pointers to nodes held against each other.
  WHAT TAKE AND SPLIT MAKE, PLAINLY; which nodes two maps share; how high a balanced tree is.
  BOTH ENDS OF A TREE, and whether keys fit beside a key: end, fits.
  PUT, TAKE AND SPLIT, as the program has them; whether keys fit beside a key.
  A KEY LOOKED FOR: find, seek with its closure; Get.
-/
import Derived.Test.YtkkpdgfllnbigaaGreatDoorMg3
import Derived.LaidEqlPtr
import Derived.Scope
import Derived.Deep.LoopGhost
namespace Go.Proofs.YtkkpdgfllnbigaaGreatDoor.Pm
open Go.RowKit Go.Shelf
set_option linter.unusedSimpArgs false

theorem In.inj {w : World} : ∀ {a b : T}, In w a → In w b → a.ptr = b.ptr → a = b
  | .nil, .nil, _, _, _ => rfl
  | .nil, .node .., _, _, h => by simp [T.ptr] at h
  | .node .., .nil, _, _, h => by simp [T.ptr] at h
  | .node p k v l r, .node q k' v' l' r', ha, hb, h => by
    simp only [T.ptr, Value.pointer.injEq, Option.some.injEq, Addr.mk.injEq, and_true] at h
    subst h
    have e := ha.1.symm.trans hb.1
    simp only [Option.some.injEq, Obj.cells.injEq, Array.mk.injEq, List.cons.injEq, Value.string.injEq, Value.int.injEq, true_and, and_true] at e
    obtain ⟨rfl, rfl, e1, e2, _⟩ := e
    rw [In.inj ha.2.1 hb.2.1 e1, In.inj ha.2.2 hb.2.2 e2]

theorem Tryz.info127 : (Tryz.prog.info? 127).map (fun i => i.size) = some 6 := by kernel_rfl
theorem eql_same (t : T) (W : World) : (binOp .eql 41 t.ptr t.ptr).run Tryz.prog W = .ok (.bool true) W := by
  obtain ⟨j, hj, _⟩ := Option.map_eq_some_iff.1 Tryz.info127
  cases t with
  | nil => exact run_eql_pointer_nil W 41 none (by kernel_rfl)
  | node p k v l r => exact run_eql_ptr_same W _ Tryz.underlying41 hj
theorem eql_other {a b : T} {W : World} (ha : In W a) (hb : In W b) (hne : a ≠ b) : (binOp .eql 41 a.ptr b.ptr).run Tryz.prog W = .ok (.bool false) W := by
  obtain ⟨j, hj, hs⟩ := Option.map_eq_some_iff.1 Tryz.info127
  cases a with
  | nil =>
    cases b with
    | nil => exact (hne rfl).elim
    | node p k v l r =>
      have h : ∀ d : Nat, (Op.equalIn (d + 1) 41 (.pointer none) (.pointer (some ⟨p, 0, none⟩))).run Tryz.prog W = .ok false W := fun d => by
        simp [Op.equalIn, run_underlying Tryz.underlying41]
      simp only [T.ptr, binOp]
      simp [Op.equal, Op.maxDepth, h 9999]
  | node p k v l r =>
    cases b with
    | nil => exact run_eql_pointer_nil W 41 (some ⟨p, 0, none⟩) (by kernel_rfl)
    | node q k' v' l' r' =>
      refine run_eql_ptr_other W Tryz.underlying41 hj (by omega) ?_ ha.1 hb.1
      intro e
      exact hne (In.inj ha hb (by simp only [T.ptr]; rw [e]))

set_option maxHeartbeats 2000000 in
set_option maxRecDepth 100000 in
theorem joining_any {p : Nat} {k : ByteArray} {v : ByteArray} {nl nr : T} (l r : T) (w : World) (hN : In w (.node p k v nl nr)) (hl : In w l) (hr : In w r) (hn : l.n + r.n ≤ 800000) :
    Calls Tryz.prog 81 #[.pointer (some ⟨p, 0, none⟩), l.ptr, r.ptr] w fun e w' => ∃ t, Gives w e w' t ∧ Joins w.heap.size p k v nl nr l r t := by
  obtain ⟨c0, c1, c2, c3, c4, c5⟩ := hN.cells
  by_cases hb : l = nl ∧ r = nr
  · obtain ⟨rfl, rfl⟩ := hb
    have hfin : Gives w (.returned (T.node p k v l r).ptr) w (T.node p k v l r) := ⟨rfl, hN, Below.refl _ _⟩
    have HF := hide hfin
    have q1 := eql_same l w
    have q2 := eql_same r w
    obtain ⟨a, ha⟩ := l.ptr_shape
    obtain ⟨b, hb⟩ := r.ptr_shape
    rw [ha] at c2 q1 ⊢
    rw [hb] at c3 q2 ⊢
    clear hfin c0 c1 c4 c5 hN hl hr ha hb hn
    go_enter Tryz.func81, Tryz.ntmps81
    go_wp2
    go_ret
    exact ⟨_, HF.out, .inl ⟨rfl, rfl, rfl⟩⟩
  · have hj := join_any k v 800000 l r w.drew hn (by omega) hl.drew hr.drew
    have hG : ∀ e w' t, Gives w.drew e w' t → Joined w.drew.heap.size k v l r t → Hid (∃ t, Gives w e w' t ∧ Joins w.heap.size p k v nl nr l r t) ∧ Below w.heap.size w w' ∧ e = .returned t.ptr := fun e w' t hg hj => ⟨hide ⟨t, hg.grow (Below.refl _ w).drew, .inr ⟨hb, hj⟩⟩, (hg.grow (Below.refl _ w).drew).2.2, hg.1⟩
    have hq : ((binOp .eql 41 l.ptr nl.ptr).run Tryz.prog w = .ok (.bool false) w) ∨ (((binOp .eql 41 l.ptr nl.ptr).run Tryz.prog w = .ok (.bool true) w) ∧ ((binOp .eql 41 r.ptr nr.ptr).run Tryz.prog w = .ok (.bool false) w)) := by
      by_cases h1 : l = nl
      · subst h1
        exact .inr ⟨eql_same l w, eql_other hr hN.2.2 (fun h => hb ⟨rfl, h⟩)⟩
      · exact .inl (eql_other hl hN.2.1 h1)
    obtain ⟨a, ha⟩ := l.ptr_shape
    obtain ⟨b, hb'⟩ := r.ptr_shape
    obtain ⟨na, hna⟩ := nl.ptr_shape
    obtain ⟨nb, hnb⟩ := nr.ptr_shape
    rw [ha, hb', hna, hnb] at hq
    rw [ha, hb'] at hj ⊢
    rw [hna] at c2
    rw [hnb] at c3
    have hS : w.cell? ⟨p, 0, none⟩ = some (.string k) ∧ w.cell? ⟨p, 1, none⟩ = some (.string v) := ⟨c0, c1⟩
    clear c4 c5 hN hl hr hn ha hb' hna hnb hb c0 c1
    rcases hq with q1 | ⟨q1, q2⟩
    all_goals
      go_enter Tryz.func81, Tryz.ntmps81
      go_wp2_with fail
      go_region_held3 (fun w' => w'.cell? ⟨p, 0, none⟩ = some (.string k) ∧ w'.cell? ⟨p, 1, none⟩ = some (.string v)) (first | exact hS | exact keep2 hS (by assumption))
        (first | (go_at_call 100; refine hj.mono ?_; rintro e w' ⟨t, hg, hj2⟩; obtain ⟨HG, hb2, he⟩ := hG e w' t hg hj2; clear hg hj2; obtain ⟨at_, hat⟩ := t.ptr_shape; rw [hat] at he; subst he))
      go_wp2
      go_ret
      exact HG.out
end Go.Proofs.YtkkpdgfllnbigaaGreatDoor.Pm
namespace Go.Proofs.YtkkpdgfllnbigaaGreatDoor.Pm

/-- The least node, the greatest one. -/
def T.first : T → T
  | .nil => .nil
  | .node p k v .nil r => .node p k v .nil r
  | .node _ _ _ (.node p k v l r) _ => T.first (.node p k v l r)
theorem T.first_spec : ∀ {t : T}, t ≠ .nil → ∃ p k v r rest, t.first = .node p k v .nil r ∧ t.list = (k, v) :: rest ∧ Sub t.first t
  | .nil, h => (h rfl).elim
  | .node p k v .nil r, _ => ⟨p, k, v, r, r.list, rfl, rfl, .here⟩
  | .node p k v (.node p' k' v' l' r') r, _ => by
    obtain ⟨a, b, c, d, e, h1, h2, h3⟩ := T.first_spec (t := .node p' k' v' l' r') (by simp)
    refine ⟨a, b, c, d, e ++ (k, v) :: r.list, by rw [T.first]; exact h1, ?_, by rw [T.first]; exact .left h3⟩
    rw [T.list, h2]; rfl
/-- take. -/
inductive Takes (B : Nat) : ByteArray → T → T → Prop where
  | none {k} : Takes B k .nil .nil
  | left {k p nk nv l r l' t} (hc : cmpB k nk = -1) (h : Takes B k l l') (hj : Joins B p nk nv l r l' r t) : Takes B k (.node p nk nv l r) t
  | right {k p nk nv l r r' t} (hc : cmpB k nk = 1) (h : Takes B k r r') (hj : Joins B p nk nv l r l r' t) : Takes B k (.node p nk nv l r) t
  | onlyR {k p nk nv r} (hc : cmpB k nk = 0) : Takes B k (.node p nk nv .nil r) r
  | onlyL {k p nk nv l} (hc : cmpB k nk = 0) (hl : l ≠ .nil) : Takes B k (.node p nk nv l .nil) l
  | both {k p nk nv l r fp fk fv fr r' t} (hc : cmpB k nk = 0) (hl : l ≠ .nil) (hr : r ≠ .nil) (hf : r.first = .node fp fk fv .nil fr) (h : Takes B fk r r') (hj : Joins B fp fk fv .nil fr l r' t) : Takes B k (.node p nk nv l r) t
theorem Takes.mono {B B' k t t'} (h : Takes B' k t t') (hB : B ≤ B') : Takes B k t t' := by
  induction h with
  | none => exact .none
  | left hc _ hj ih => exact .left hc ih (hj.mono hB)
  | right hc _ hj ih => exact .right hc ih (hj.mono hB)
  | onlyR hc => exact .onlyR hc
  | onlyL hc hl => exact .onlyL hc hl
  | both hc hl hr hf _ hj ih => exact .both hc hl hr hf ih (hj.mono hB)
theorem Takes.list {B k t t'} (h : Takes B k t t') : Srt t.list → t'.list = del k t.list := by
  induction h with
  | none => intro _; simp [T.list, del, has, pos]
  | @left k p nk nv l r l' t hc _ hj ih =>
    intro hs
    have hs' := Srt.app.1 hs
    rw [hj.list, ih hs'.1]
    exact (del_left (x := (nk, nv)) hc _ _).symm
  | @right k p nk nv l r r' t hc _ hj ih =>
    intro hs
    obtain ⟨s1, s2, s3, s4⟩ := Srt.app.1 hs
    have hnk : cmpB nk k = -1 := by have := ord_B.anti k nk; omega
    rw [hj.list, ih s2]
    have : (T.node p nk nv l r).list = (l.list ++ [(nk, nv)]) ++ r.list := by simp [T.list]
    rw [this, del_right]
    · simp
    · intro y hy
      simp only [List.mem_append, List.mem_singleton] at hy
      rcases hy with hy | rfl
      · exact ord_B.trans _ _ _ (s3 y hy) hnk
      · exact hnk
  | @onlyR k p nk nv r hc =>
    intro hs
    have := ord_B.eq _ _ hc
    subst this
    exact (del_same (a := []) (by simp)).symm
  | @onlyL k p nk nv l hc hl =>
    intro hs
    obtain ⟨s1, s2, s3, s4⟩ := Srt.app.1 hs
    have := ord_B.eq _ _ hc
    subst this
    have := del_same (u := nv) (b := []) s3
    rw [List.append_nil] at this
    exact this.symm
  | @both k p nk nv l r fp fk fv fr r' t hc hl hr hf _ hj ih =>
    intro hs
    obtain ⟨s1, s2, s3, s4⟩ := Srt.app.1 hs
    have := ord_B.eq _ _ hc
    subst this
    obtain ⟨p', k', v', r2, rest, h1, h2, _⟩ := T.first_spec hr
    rw [hf] at h1
    simp only [T.node.injEq] at h1
    obtain ⟨_, rfl, rfl, _, _⟩ := h1
    rw [hj.list, ih s2, h2]
    have e1 : del fk ((fk, fv) :: rest) = rest := del_same (a := []) (by simp)
    rw [e1, T.list, h2]
    exact (del_same s3).symm
theorem Takes.built {B k t t'} (h : Takes B k t t') : Built B (fun s => Sub s t) t' := by
  induction h with
  | none => exact .nil
  | @left k p nk nv l r l' t hc _ hj ih => exact hj.built (down_sub _) .here (ih.mono (Nat.le_refl _) (fun s hs => .old (.left hs))) (.old (.right .here))
  | @right k p nk nv l r r' t hc _ hj ih => exact hj.built (down_sub _) .here (.old (.left .here)) (ih.mono (Nat.le_refl _) (fun s hs => .old (.right hs)))
  | onlyR hc => exact .old (.right .here)
  | onlyL hc hl => exact .old (.left .here)
  | @both k p nk nv l r fp fk fv fr r' t hc hl hr hf _ hj ih =>
    obtain ⟨_, _, _, _, _, h1, _, h3⟩ := T.first_spec hr
    rw [hf] at h3
    exact hj.built (down_sub _) (.right h3) (.old (.left .here)) (ih.mono (Nat.le_refl _) (fun s hs => .old (.right hs)))

structure TakeSays (B : Nat) (k : ByteArray) (t t' : T) : Prop where
  bal : t'.bal
  hi : t'.h ≤ t.h
  lo : t.h ≤ t'.h + 1
  fr : t'.fresh B ≤ 3 * t.h
  gone : has k t.list = false → t' = t
theorem Takes.says {B k t t'} (h : Takes B k t t') : Srt t.list → t.bal → t.under B → TakeSays B k t t' := by
  induction h with
  | none => intro _ _ _; exact ⟨trivial, Nat.le_refl _, by simp [T.h], by simp [T.fresh], fun _ => rfl⟩
  | @left k p nk nv l r l' t hc _ hj ih =>
    intro hs hb hu
    have fu := T.under_fresh hu
    obtain ⟨s1, s2, s3, s4⟩ := Srt.app.1 hs
    obtain ⟨b1, b2, b3, b4⟩ := hb
    obtain ⟨u1, u2, u3⟩ := hu
    obtain ⟨P1, P2, P3, P4, P5⟩ := ih s1 b3 u2
    have f0 := T.under_fresh u3
    have hh : (T.node p nk nv l r).h = max l.h r.h + 1 := rfl
    rcases hj with ⟨rfl, _, rfl⟩ | ⟨hne, hJ⟩
    · exact ⟨⟨b1, b2, b3, b4⟩, Nat.le_refl _, by omega, by omega, fun _ => rfl⟩
    · have J := hJ.says P1 b4
      have J1 := J.lo
      have J2 := J.hi
      have J3 := J.near
      have J4 := J.fr
      refine ⟨J.bal, by omega, by omega, by omega, fun g => ?_⟩
      have hhas : has k (T.node p nk nv l r).list = has k l.list := has_left (x := (nk, nv)) hc _ _
      exact (hne ⟨P5 (hhas ▸ g), rfl⟩).elim
  | @right k p nk nv l r r' t hc _ hj ih =>
    intro hs hb hu
    have fu := T.under_fresh hu
    obtain ⟨s1, s2, s3, s4⟩ := Srt.app.1 hs
    obtain ⟨b1, b2, b3, b4⟩ := hb
    obtain ⟨u1, u2, u3⟩ := hu
    obtain ⟨P1, P2, P3, P4, P5⟩ := ih s2 b4 u3
    have f0 := T.under_fresh u2
    have hh : (T.node p nk nv l r).h = max l.h r.h + 1 := rfl
    have hnk : cmpB nk k = -1 := by have := ord_B.anti k nk; omega
    rcases hj with ⟨_, rfl, rfl⟩ | ⟨hne, hJ⟩
    · exact ⟨⟨b1, b2, b3, b4⟩, Nat.le_refl _, by omega, by omega, fun _ => rfl⟩
    · have J := hJ.says b3 P1
      have J1 := J.lo
      have J2 := J.hi
      have J3 := J.near
      have J4 := J.fr
      refine ⟨J.bal, by omega, by omega, by omega, fun g => ?_⟩
      have hhas : has k (T.node p nk nv l r).list = has k r.list := by
        have : (T.node p nk nv l r).list = (l.list ++ [(nk, nv)]) ++ r.list := by simp [T.list]
        rw [this, has_right]
        intro y hy
        simp only [List.mem_append, List.mem_singleton] at hy
        rcases hy with hy | rfl
        · exact ord_B.trans _ _ _ (s3 y hy) hnk
        · exact hnk
      exact (hne ⟨rfl, P5 (hhas ▸ g)⟩).elim
  | @onlyR k p nk nv r hc =>
    intro hs hb hu
    have f0 := T.under_fresh hu.2.2
    have hh : (T.node p nk nv .nil r).h = max 0 r.h + 1 := rfl
    have := ord_B.eq _ _ hc
    subst this
    exact ⟨hb.2.2.2, by omega, by omega, by omega, fun g => by have := (pos_same (v := nv) (b := r.list) (a := []) (k := k) (by simp)).2; rw [T.list, T.list, this] at g; cases g⟩
  | @onlyL k p nk nv l hc hl =>
    intro hs hb hu
    have f0 := T.under_fresh hu.2.1
    have hh : (T.node p nk nv l .nil).h = max l.h 0 + 1 := rfl
    obtain ⟨s1, s2, s3, s4⟩ := Srt.app.1 hs
    have := ord_B.eq _ _ hc
    subst this
    exact ⟨hb.2.2.1, by omega, by omega, by omega, fun g => by have := (pos_same (v := nv) (b := []) s3).2; rw [T.list, T.list, this] at g; cases g⟩
  | @both k p nk nv l r fp fk fv fr r' t hc hl hr hf _ hj ih =>
    intro hs hb hu
    obtain ⟨s1, s2, s3, s4⟩ := Srt.app.1 hs
    obtain ⟨b1, b2, b3, b4⟩ := hb
    obtain ⟨u1, u2, u3⟩ := hu
    obtain ⟨P1, P2, P3, P4, P5⟩ := ih s2 b4 u3
    have f0 := T.under_fresh u2
    have hh : (T.node p nk nv l r).h = max l.h r.h + 1 := rfl
    have := ord_B.eq _ _ hc
    subst this
    rcases hj with ⟨e, _⟩ | ⟨hne, hJ⟩
    · exact (hl e).elim
    · have J := hJ.says b3 P1
      have J1 := J.lo
      have J2 := J.hi
      have J3 := J.near
      have J4 := J.fr
      exact ⟨J.bal, by omega, by omega, by omega, fun g => by have := (pos_same (v := nv) (b := r.list) s3).2; rw [T.list, this] at g; cases g⟩

/-- split. -/
inductive Splits (B : Nat) (k : ByteArray) : T → T → T → T → Prop where
  | none : Splits B k .nil .nil .nil .nil
  | left {p nk nv l r a f b t} (hc : cmpB k nk = -1) (h : Splits B k l a f b) (hj : Joins B p nk nv l r b r t) : Splits B k (.node p nk nv l r) a f t
  | right {p nk nv l r a f b t} (hc : cmpB k nk = 1) (h : Splits B k r a f b) (hj : Joins B p nk nv l r l a t) : Splits B k (.node p nk nv l r) t f b
  | same {p nk nv l r} (hc : cmpB k nk = 0) : Splits B k (.node p nk nv l r) l (.node p nk nv l r) r
theorem Splits.mono {B B' k t a f b} (h : Splits B' k t a f b) (hB : B ≤ B') : Splits B k t a f b := by
  induction h with
  | none => exact .none
  | left hc _ hj ih => exact .left hc ih (hj.mono hB)
  | right hc _ hj ih => exact .right hc ih (hj.mono hB)
  | same hc => exact .same hc
theorem Joins.bal {B p k v nl nr l r t} (h : Joins B p k v nl nr l r t) (hn : (T.node p k v nl nr).bal) (hl : l.bal) (hr : r.bal) : t.bal := by
  rcases h with ⟨_, _, rfl⟩ | ⟨_, h⟩
  · exact hn
  · exact (h.says hl hr).bal
theorem Splits.bal {B k t a f b} (h : Splits B k t a f b) : t.bal → a.bal ∧ b.bal := by
  induction h with
  | none => exact fun _ => ⟨trivial, trivial⟩
  | left hc _ hj ih => exact fun hb => ⟨(ih hb.2.2.1).1, hj.bal hb (ih hb.2.2.1).2 hb.2.2.2⟩
  | right hc _ hj ih => exact fun hb => ⟨hj.bal hb hb.2.2.1 (ih hb.2.2.2).1, (ih hb.2.2.2).2⟩
  | same hc => exact fun hb => ⟨hb.2.2.1, hb.2.2.2⟩
theorem Splits.sub {B k t a f b} (h : Splits B k t a f b) : f = .nil ∨ Sub f t := by
  induction h with
  | none => exact .inl rfl
  | left _ _ _ ih => exact ih.imp id .left
  | right _ _ _ ih => exact ih.imp id .right
  | same _ => exact .inr .here
/-- The keys below, the one, those above. -/
theorem Splits.list {B k t a f b} (h : Splits B k t a f b) : Srt t.list → a.list = t.list.take (pos k t.list) ∧ b.list = t.list.drop (if has k t.list then pos k t.list + 1 else pos k t.list) ∧ (has k t.list = false → f = .nil) ∧ (has k t.list = true → f ≠ .nil ∧ t.list[pos k t.list]? = some (k, f.val)) := by
  induction h with
  | none => intro _; simp [T.list, pos, has]
  | @left p nk nv l r a f b t hc _ hj ih =>
    intro hs
    obtain ⟨s1, s2, s3, s4⟩ := Srt.app.1 hs
    obtain ⟨i1, i2, i3, i4⟩ := ih s1
    have hp : pos k (T.node p nk nv l r).list = pos k l.list := pos_left (x := (nk, nv)) (by simp only; omega) _ _
    have hh : has k (T.node p nk nv l r).list = has k l.list := has_left (x := (nk, nv)) hc _ _
    have hpl := pos_le k l.list
    rw [hp, hh]
    refine ⟨?_, ?_, i3, fun g => ?_⟩
    · rw [i1]; exact (List.take_append_of_le_length hpl).symm
    · rw [hj.list, i2]
      refine (List.drop_append_of_le_length ?_).symm
      split
      · rename_i g
        obtain ⟨v', hv'⟩ := has_mem g
        exact (List.getElem?_eq_some_iff.1 hv').1
      · exact hpl
    · obtain ⟨j1, j2⟩ := i4 g
      exact ⟨j1, (List.getElem?_append_left (List.getElem?_eq_some_iff.1 j2).1).trans j2⟩
  | @right p nk nv l r a f b t hc _ hj ih =>
    intro hs
    obtain ⟨s1, s2, s3, s4⟩ := Srt.app.1 hs
    obtain ⟨i1, i2, i3, i4⟩ := ih s2
    have hnk : cmpB nk k = -1 := by have := ord_B.anti k nk; omega
    have e : (T.node p nk nv l r).list = (l.list ++ [(nk, nv)]) ++ r.list := by simp [T.list]
    have hall : ∀ y ∈ l.list ++ [(nk, nv)], cmpB y.1 k = -1 := by
      intro y hy
      simp only [List.mem_append, List.mem_singleton] at hy
      rcases hy with hy | rfl
      · exact ord_B.trans _ _ _ (s3 y hy) hnk
      · exact hnk
    rw [e, pos_right hall, has_right hall]
    refine ⟨?_, ?_, i3, fun g => ?_⟩
    · rw [hj.list, i1, List.take_length_add_append]; simp
    · have : (if has k r.list = true then (l.list ++ [(nk, nv)]).length + pos k r.list + 1 else (l.list ++ [(nk, nv)]).length + pos k r.list) = (l.list ++ [(nk, nv)]).length + (if has k r.list = true then pos k r.list + 1 else pos k r.list) := by split <;> omega
      rw [this, List.drop_length_add_append, i2]
    · obtain ⟨j1, j2⟩ := i4 g
      exact ⟨j1, by rw [List.getElem?_append_right (by omega), Nat.add_sub_cancel_left]; exact j2⟩
  | @same p nk nv l r hc =>
    intro hs
    obtain ⟨s1, s2, s3, s4⟩ := Srt.app.1 hs
    have := ord_B.eq _ _ hc
    subst this
    obtain ⟨h1, h2⟩ := pos_same (v := nv) (b := r.list) s3
    rw [T.list, h1, h2]
    refine ⟨by simp, by simp, ⟨fun g => (by cases g), fun _ => ⟨by simp, by simp [T.val]⟩⟩⟩

/-- The node of a key. -/
def T.find (k : ByteArray) : T → T
  | .nil => .nil
  | .node p nk nv l r => if cmpB k nk = -1 then l.find k else if cmpB k nk = 1 then r.find k else .node p nk nv l r
/-- How many nodes of t are nodes of a, as the program counts them. -/
def sharedIn (a : T) : T → Nat
  | .nil => 0
  | .node p k v l r => if a.find k = .node p k v l r then (T.node p k v l r).n else sharedIn a l + sharedIn a r
theorem Sub.mem {s t : T} (h : Sub s t) : ∀ x ∈ s.list, x ∈ t.list := by
  induction h with
  | here => exact fun _ h => h
  | left _ ih => intro x hx; simp only [T.list, List.mem_append]; exact .inl (ih x hx)
  | right _ ih => intro x hx; simp only [T.list, List.mem_append, List.mem_cons]; exact .inr (.inr (ih x hx))
theorem T.find_sub {a : T} {p k v l r} (h : Sub (.node p k v l r) a) : Srt a.list → a.find k = .node p k v l r := by
  induction h with
  | here => intro _; simp [T.find, ord_B.refl]
  | @left p' k' v' l' r' h ih =>
    intro hs
    obtain ⟨s1, s2, s3, s4⟩ := Srt.app.1 hs
    have := s3 (k, v) (h.mem (k, v) (by simp [T.list]))
    simp only at this
    simp only [T.find, this, if_true]
    exact ih s1
  | @right p' k' v' l' r' h ih =>
    intro hs
    obtain ⟨s1, s2, s3, s4⟩ := Srt.app.1 hs
    have h1 := s4 (k, v) (h.mem (k, v) (by simp [T.list]))
    simp only at h1
    have h2 : cmpB k k' = 1 := by have := ord_B.anti k k'; omega
    simp only [T.find, h2, if_true]
    exact ih s2
theorem shared_le (a : T) : ∀ t : T, sharedIn a t ≤ t.n
  | .nil => Nat.le_refl _
  | .node p k v l r => by
    have h1 := shared_le a l
    have h2 := shared_le a r
    simp only [sharedIn, T.n]
    split <;> omega
theorem shared_node (a : T) (p k v l r) : sharedIn a l + sharedIn a r ≤ sharedIn a (T.node p k v l r) := by
  have h1 := shared_le a l
  have h2 := shared_le a r
  simp only [sharedIn, T.n]
  split <;> omega
theorem Built.few {B : Nat} {a t : T} (h : Built B (fun s => Sub s a) t) (hs : Srt a.list) : t.n ≤ t.fresh B + sharedIn a t := by
  induction h with
  | nil => exact Nat.zero_le _
  | @old t h =>
    cases t with
    | nil => exact Nat.zero_le _
    | node p k v l r =>
      have := T.find_sub h hs
      simp only [sharedIn, this, if_true]
      omega
  | @new p k v l r hp _ _ ihl ihr =>
    have := shared_node a p k v l r
    rw [T.fresh_new hp]
    simp only [T.n]
    omega
end Go.Proofs.YtkkpdgfllnbigaaGreatDoor.Pm
namespace Go.Proofs.YtkkpdgfllnbigaaGreatDoor.Pm
open Go.RowKit Go.Shelf
set_option linter.unusedSimpArgs false

theorem In.sub {w : World} {s t : T} (h : Sub s t) : In w t → In w s := by
  induction h with
  | here => exact id
  | left _ ih => exact fun h => ih h.2.1
  | right _ ih => exact fun h => ih h.2.2
theorem first_left {p k v l r} : (T.node p k v l r).first = if l = .nil then .node p k v l r else l.first := by
  cases l with
  | nil => simp [T.first]
  | node => simp [T.first]
theorem ptr_nil {t : T} : t.ptr = .pointer none ↔ t = .nil := by cases t <;> simp [T.ptr]

set_option maxHeartbeats 1000000 in
theorem end_left (t : T) (w : World) (h : In w t) : Calls Tryz.prog 84 #[t.ptr, .func (.func 85) #[] #[]] w fun e w' => e = .returned t.first.ptr ∧ w' = w := by
  have hL : ∀ s, In w s → Calls Tryz.prog 85 #[s.ptr] w fun e w' => e = .returned s.left.ptr ∧ w' = w := fun s hs => left_any s w hs
  have h0 := hL t h
  obtain ⟨a, ha⟩ := t.ptr_shape
  obtain ⟨b, hb⟩ := t.left.ptr_shape
  rw [ha, hb] at h0
  rw [ha]
  have H := hide (And.intro ha hb)
  have HL := hide hL
  have HT := hide h
  clear h ha hb hL
  go_enter Tryz.func84, Tryz.ntmps84
  go_wp2_with (go_at_call 85; refine h0.mono ?_; rintro e w' ⟨rfl, hw⟩; replace hw := hw.symm; subst hw)
  go_loopg [0, 5] t.h (fun k v0 v5 wr => ∃ (s : T) (a b : Option Addr), v0 = .pointer a ∧ v5 = .pointer b ∧ Hid (s.ptr = .pointer a ∧ s.left.ptr = .pointer b ∧ In w s ∧ s.first = t.first ∧ s.h = k) ∧ wr = w)
  case atStart => exact ⟨t, a, b, rfl, rfl, hide ⟨H.out.1, H.out.2, HT.out, rfl, rfl⟩, rfl⟩
  case round =>
    obtain ⟨s, a, b, rfl, rfl, HS, rfl⟩ := hrel
    cases b with
    | none =>
      have e1 : s.left = .nil := ptr_nil.1 HS.out.2.1
      have e2 : s.first = s := by
        cases s with
        | nil => rfl
        | node p k v l r => rw [first_left, if_pos (by simpa [T.left] using e1)]
      have HE := hide (show t.first.ptr = .pointer a by rw [← HS.out.2.2.2.1, e2]; exact HS.out.1)
      clear e1 e2
      go_wp2
      go_ret
      exact ⟨by rw [HE.out]; rfl, rfl⟩
    | some b =>
      have e1 : s.left ≠ .nil := fun e => by have := HS.out.2.1; rw [e] at this; cases this
      obtain ⟨p, k, v, l, r, rfl⟩ : ∃ p k v l r, s = .node p k v l r := by
        cases s with
        | nil => exact (e1 rfl).elim
        | node p k v l r => exact ⟨_, _, _, _, _, rfl⟩
      have hl := HL.out l (HS.out.2.2.1.2.1)
      have e3 : l.ptr = .pointer (some b) := HS.out.2.1
      have e4 : l.first = t.first := by rw [← HS.out.2.2.2.1, first_left, if_neg (by simpa [T.left] using e1)]
      have e5 : l.h < gk := by have := HS.out.2.2.2.2; rw [T.h_node] at this; omega
      have e6 : In wr l := HS.out.2.2.1.2.1
      obtain ⟨c, hc⟩ := l.left.ptr_shape
      rw [e3, hc] at hl
      have HX := hide (And.intro e3 (And.intro hc (And.intro e6 (And.intro e4 e5))))
      clear e1 e3 e4 e5 e6 hc
      go_wp2_with (go_at_call 85; refine hl.mono ?_; rintro e w' ⟨rfl, hw⟩; replace hw := hw.symm; subst hw)
      go_roundg l.h
      case measure => exact HX.out.2.2.2.2
      case rel => exact ⟨l, _, _, rfl, rfl, hide ⟨HX.out.1, HX.out.2.1, HX.out.2.2.1, HX.out.2.2.2.1, rfl⟩, rfl⟩
end Go.Proofs.YtkkpdgfllnbigaaGreatDoor.Pm
namespace Go.Proofs.YtkkpdgfllnbigaaGreatDoor.Pm
open Go.RowKit Go.Shelf
set_option linter.unusedSimpArgs false

theorem Joins.n {B p k v nl nr l r t} (h : Joins B p k v nl nr l r t) : t.n = l.n + r.n + 1 := by
  rw [← T.n_eq, h.list, List.length_append, List.length_cons, T.n_eq, T.n_eq]; omega
theorem Puts.n {B k v t t'} (h : Puts B k v t t') : t'.n ≤ t.n + 1 := by
  induction h with
  | none => simp [T.n]
  | left _ _ hj ih => rw [hj.n]; simp only [T.n]; omega
  | right _ _ hj ih => rw [hj.n]; simp only [T.n]; omega
  | same => simp only [T.n]; omega
theorem Takes.n {B k t t'} (h : Takes B k t t') : t'.n ≤ t.n := by
  induction h with
  | none => exact Nat.le_refl _
  | left _ _ hj ih => rw [hj.n]; simp only [T.n]; omega
  | right _ _ hj ih => rw [hj.n]; simp only [T.n]; omega
  | onlyR => simp only [T.n]; omega
  | onlyL => simp only [T.n]; omega
  | both _ _ _ _ _ hj ih => rw [hj.n]; simp only [T.n]; omega
theorem Splits.n {B k t a f b} (h : Splits B k t a f b) : a.n ≤ t.n ∧ b.n ≤ t.n := by
  induction h with
  | none => exact ⟨Nat.le_refl _, Nat.le_refl _⟩
  | left _ _ hj ih => rw [hj.n]; simp only [T.n]; omega
  | right _ _ hj ih => rw [hj.n]; simp only [T.n]; omega
  | same => simp only [T.n]; omega
theorem compare_B (a b : ByteArray) (w : World) : Calls Tryz.prog 74 #[.string a, .string b] w fun e w' => e = .returned (.int .i64 (cmpB a b)) ∧ w' = w := Tryz.strings_Compare a b w
theorem compare_is {a b : ByteArray} {c : Int} (h : cmpB a b = c) (w : World) : Calls Tryz.prog 74 #[.string a, .string b] w fun e w' => e = .returned (.int .i64 c) ∧ w' = w := h ▸ compare_B a b w

set_option maxHeartbeats 4000000 in
set_option maxRecDepth 100000 in
theorem put_any (k : ByteArray) (v : ByteArray) (t : T) : ∀ (w : World), In w t → t.n ≤ 700000 →
    Calls Tryz.prog 52 #[t.ptr, .string k, .string v] w fun e w' => ∃ t', Gives w e w' t' ∧ Puts w.heap.size k v t t' := by
  induction t with
  | nil =>
    intro w h _
    have hm := made_any .nil .nil k v w trivial trivial (by decide)
    simp only [T.ptr] at hm ⊢
    go_enter Tryz.func52, Tryz.ntmps52
    go_wp2_with (go_at_call 48; refine hm.mono ?_; rintro e w' ⟨rfl, hg, hb⟩)
    go_ret
    exact ⟨_, ⟨rfl, hg, hb⟩, .none (Nat.le_refl _)⟩
  | node p nk nv l r ihl ihr =>
    intro w h hn
    obtain ⟨c0, c1, c2, c3, c4, c5⟩ := h.cells
    rcases ord_B.range k nk with hc | hc | hc
    · have hcc : cmpB k nk = -1 := hc
      have hcmp := fun W => compare_is hcc W
      have b1 : ∀ W, Below w.heap.size w W → Calls Tryz.prog 52 #[l.ptr, .string k, .string v] W fun e w' => ∃ t', Gives W e w' t' ∧ Puts W.heap.size k v l t' := fun W hW => ihl W (In.below hW h.2.1) (by simp only [T.n] at hn; omega)
      have b2 : ∀ W l', Below w.heap.size w W → In W l' → l'.n ≤ l.n + 1 → Calls Tryz.prog 81 #[.pointer (some ⟨p, 0, none⟩), l'.ptr, r.ptr] W fun e w' => ∃ t, Gives W e w' t ∧ Joins W.heap.size p nk nv l r l' r t := fun W l' hW hi hnn => joining_any l' r W (In.below hW h) hi (In.below hW h.2.2) (by simp only [T.n] at hn; omega)
      have HF := hide (show ∀ l' t B C, w.heap.size ≤ B → w.heap.size ≤ C → Puts B k v l l' → Joins C p nk nv l r l' r t → Puts w.heap.size k v (.node p nk nv l r) t from fun _ _ _ _ hB hC hp hj => .left hcc (hp.mono hB) (hj.mono hC))
      obtain ⟨al, hal⟩ := l.ptr_shape
      obtain ⟨ar, har⟩ := r.ptr_shape
      rw [hal] at c2
      rw [har] at c3
      rw [node_ptr]
      simp only [hal] at b1
      simp only [har] at b2
      have hS : w.cell? ⟨p, 2, none⟩ = some (.pointer al) ∧ w.cell? ⟨p, 3, none⟩ = some (.pointer ar) := ⟨c2, c3⟩
      have tk1 : True := trivial
      have hB0 : Below w.heap.size w w := Below.refl _ w
      clear h hn hc hcc hal har c1 c2 c3 c4 c5 ihl ihr
      go_enter Tryz.func52, Tryz.ntmps52
      go_wp2_with (go_at_call 74; refine (hcmp _).mono ?_; rintro e w' ⟨rfl, hw⟩; replace hw := hw.symm; subst hw)
      go_region_held3 (fun w' => w'.cell? ⟨p, 2, none⟩ = some (.pointer al) ∧ w'.cell? ⟨p, 3, none⟩ = some (.pointer ar)) (first | exact hS | exact keep2 hS (by assumption) | exact keep2 (by assumption) (by assumption))
        (first
          | (go_at_call 52; clear tk1; refine (b1 _ hB0.drew).mono ?_; rintro e w1 ⟨m, hg, hj⟩; have he := hg.1; have hb1 := hg.2.2; have HI1 := hide hg.2.1; have hmn := hj.n; have HJ := hide hj; clear hg hj; obtain ⟨am, ham⟩ := m.ptr_shape; rw [ham] at he; subst he; have hB1 := hB0.drew.trans (hb1.mono hB0.size); have hb22 := b2 w1 m hB1 HI1.out (by omega); rw [ham] at hb22)
          | (go_at_call 81; refine hb22.mono ?_; rintro e w2 ⟨t, hg, hs⟩; have he := hg.1; have hb2 := hg.2.2; have HI2 := hide hg.2.1; have HS := hide hs; clear hg hs; obtain ⟨at_, hat⟩ := t.ptr_shape; have HT := hide hat; rw [hat] at he; subst he; have hB2 := hB1.trans (hb2.mono hB1.size)))
      go_wp2
      go_ret
      exact ⟨t, ⟨by rw [HT.out]; rfl, HI2.out, hB2⟩, HF.out _ _ _ _ (Nat.le_refl _) hB1.size HJ.out HS.out⟩
    · have hcmp := fun W => compare_is hc W
      have hm := made_any l r k v w.drew h.2.1.drew h.2.2.drew (by simp only [T.n] at hn; omega)
      have hG : ∀ e w', Gives w.drew e w' (.node w.drew.heap.size k v l r) → Hid (∃ t', Gives w e w' t' ∧ Puts w.heap.size k v (.node p nk nv l r) t') ∧ e = .returned (.pointer (some ⟨w.heap.size, 0, none⟩)) ∧ Below w.heap.size w w' := fun e w' g => ⟨hide ⟨_, g.grow (Below.refl _ w).drew, .same hc (Nat.le_refl _)⟩, g.1, (g.grow (Below.refl _ w).drew).2.2⟩
      obtain ⟨al, hal⟩ := l.ptr_shape
      obtain ⟨ar, har⟩ := r.ptr_shape
      rw [hal] at c2 hm
      rw [har] at c3 hm
      rw [node_ptr]
      have hS : w.cell? ⟨p, 2, none⟩ = some (.pointer al) ∧ w.cell? ⟨p, 3, none⟩ = some (.pointer ar) := ⟨c2, c3⟩
      clear h hn hc hal har c1 c2 c3 c4 c5 ihl ihr
      go_enter Tryz.func52, Tryz.ntmps52
      go_wp2_with (go_at_call 74; refine (hcmp _).mono ?_; rintro e w' ⟨rfl, hw⟩; replace hw := hw.symm; subst hw)
      go_region_held3 (fun w' => w'.cell? ⟨p, 2, none⟩ = some (.pointer al) ∧ w'.cell? ⟨p, 3, none⟩ = some (.pointer ar)) (first | exact hS | exact keep2 hS (by assumption))
        (first | (go_at_call 48; refine hm.mono ?_; intro e w' hg; obtain ⟨HG, rfl, hb2⟩ := hG e w' hg))
      go_wp2
      go_ret
      exact HG.out
    · have hcc : cmpB k nk = 1 := hc
      have hcmp := fun W => compare_is hcc W
      have b1 : ∀ W, Below w.heap.size w W → Calls Tryz.prog 52 #[r.ptr, .string k, .string v] W fun e w' => ∃ t', Gives W e w' t' ∧ Puts W.heap.size k v r t' := fun W hW => ihr W (In.below hW h.2.2) (by simp only [T.n] at hn; omega)
      have b2 : ∀ W r', Below w.heap.size w W → In W r' → r'.n ≤ r.n + 1 → Calls Tryz.prog 81 #[.pointer (some ⟨p, 0, none⟩), l.ptr, r'.ptr] W fun e w' => ∃ t, Gives W e w' t ∧ Joins W.heap.size p nk nv l r l r' t := fun W r' hW hi hnn => joining_any l r' W (In.below hW h) (In.below hW h.2.1) hi (by simp only [T.n] at hn; omega)
      have HF := hide (show ∀ r' t B C, w.heap.size ≤ B → w.heap.size ≤ C → Puts B k v r r' → Joins C p nk nv l r l r' t → Puts w.heap.size k v (.node p nk nv l r) t from fun _ _ _ _ hB hC hp hj => .right hcc (hp.mono hB) (hj.mono hC))
      obtain ⟨al, hal⟩ := l.ptr_shape
      obtain ⟨ar, har⟩ := r.ptr_shape
      rw [hal] at c2
      rw [har] at c3
      rw [node_ptr]
      simp only [har] at b1
      simp only [hal] at b2
      have hS : w.cell? ⟨p, 2, none⟩ = some (.pointer al) ∧ w.cell? ⟨p, 3, none⟩ = some (.pointer ar) := ⟨c2, c3⟩
      have tk1 : True := trivial
      have hB0 : Below w.heap.size w w := Below.refl _ w
      clear h hn hc hcc hal har c1 c2 c3 c4 c5 ihl ihr
      go_enter Tryz.func52, Tryz.ntmps52
      go_wp2_with (go_at_call 74; refine (hcmp _).mono ?_; rintro e w' ⟨rfl, hw⟩; replace hw := hw.symm; subst hw)
      go_region_held3 (fun w' => w'.cell? ⟨p, 2, none⟩ = some (.pointer al) ∧ w'.cell? ⟨p, 3, none⟩ = some (.pointer ar)) (first | exact hS | exact keep2 hS (by assumption) | exact keep2 (by assumption) (by assumption))
        (first
          | (go_at_call 52; clear tk1; refine (b1 _ hB0.drew).mono ?_; rintro e w1 ⟨m, hg, hj⟩; have he := hg.1; have hb1 := hg.2.2; have HI1 := hide hg.2.1; have hmn := hj.n; have HJ := hide hj; clear hg hj; obtain ⟨am, ham⟩ := m.ptr_shape; rw [ham] at he; subst he; have hB1 := hB0.drew.trans (hb1.mono hB0.size); have hb22 := b2 w1 m hB1 HI1.out (by omega); rw [ham] at hb22)
          | (go_at_call 81; refine hb22.mono ?_; rintro e w2 ⟨t, hg, hs⟩; have he := hg.1; have hb2 := hg.2.2; have HI2 := hide hg.2.1; have HS := hide hs; clear hg hs; obtain ⟨at_, hat⟩ := t.ptr_shape; have HT := hide hat; rw [hat] at he; subst he; have hB2 := hB1.trans (hb2.mono hB1.size)))
      go_wp2
      go_ret
      exact ⟨t, ⟨by rw [HT.out]; rfl, HI2.out, hB2⟩, HF.out _ _ _ _ (Nat.le_refl _) hB1.size HJ.out HS.out⟩
end Go.Proofs.YtkkpdgfllnbigaaGreatDoor.Pm
namespace Go.Proofs.YtkkpdgfllnbigaaGreatDoor.Pm
open Go.RowKit Go.Shelf
set_option linter.unusedSimpArgs false

set_option maxHeartbeats 1000000 in
set_option maxRecDepth 100000 in
theorem find1_any {p : Nat} {nk : ByteArray} {nv : ByteArray} {l r : T} (L : Nat) (k : ByteArray) (w : World) (h : In w (.node p nk nv l r)) (hL : w.cell? ⟨L, 0, none⟩ = some (.string k)) :
    Calls Tryz.prog 80 #[.pointer (some ⟨p, 0, none⟩), .pointer (some ⟨L, 0, none⟩)] w fun e w' => e = .returned (.int .i64 (cmpB k nk)) ∧ ∃ n, w' = w.drewN n := by
  have c0 := h.cells.c0
  have hc := fun W => compare_B k nk W
  generalize cmpB k nk = X at *
  clear h
  go_enter Tryz.func80, Tryz.ntmps80
  go_wp2_with fail
  go_quiet (first | (go_at_call 74; refine Calls.quiet_of_same (hc _)))
  go_wp2
  go_ret
  exact ⟨rfl, _, rfl⟩

theorem In.drewN {w : World} {t : T} (h : In w t) (n : Nat) : In (w.drewN n) t := In.below (below_drew w n) h
theorem find_node {k : ByteArray} {p nk nv l r} : (T.node p nk nv l r).find k = if cmpB k nk = -1 then l.find k else if cmpB k nk = 1 then r.find k else .node p nk nv l r := rfl

set_option maxHeartbeats 2000000 in
set_option maxRecDepth 100000 in
theorem seek_find (t : T) (L : Nat) (k : ByteArray) (w : World) (h : In w t) (hL : w.cell? ⟨L, 0, none⟩ = some (.string k)) :
    Calls Tryz.prog 79 #[t.ptr, .func (.func 80) #[] #[.pointer (some ⟨L, 0, none⟩)]] w fun e w' => e = .returned (t.find k).ptr ∧ ∃ n, w' = w.drewN n := by
  obtain ⟨a, ha⟩ := t.ptr_shape
  rw [ha]
  have H := hide (And.intro ha (And.intro h hL))
  clear h ha
  go_enter Tryz.func79, Tryz.ntmps79
  go_upto_region 1 with fail
  refine wp_scope_straight ?_
  go_wp2_with fail
  refine wp_label ?_
  go_wp2_with fail
  go_loopg [0, 5] t.h (fun g v0 _ wr => ∃ (s : T) (a : Option Addr) (m : Nat), v0 = .pointer a ∧ Hid (s.ptr = .pointer a ∧ In w s ∧ s.find k = t.find k ∧ s.h = g) ∧ wr = w.drewN m)
  case atStart => exact ⟨t, a, 0, rfl, hide ⟨H.out.1, H.out.2.1, rfl, rfl⟩, rfl⟩
  case round =>
    obtain ⟨s, a, m, rfl, HS, rfl⟩ := hrel
    cases s with
    | nil =>
      have e1 : a = none := by have := HS.out.1; simp only [T.ptr, Value.pointer.injEq] at this; exact this.symm
      subst e1
      have HE := hide (show (t.find k).ptr = .pointer none by rw [← HS.out.2.2.1]; rfl)
      go_wp2
      rw [Exit.noGoto_ret]
      go_ret
      exact ⟨by rw [HE.out]; rfl, m, rfl⟩
    | node p nk nv l r =>
      have e1 : a = some ⟨p, 0, none⟩ := by have := HS.out.1; simp only [T.ptr, Value.pointer.injEq] at this; exact this.symm
      subst e1
      have hn := HS.out.2.1.drewN m
      have hf := find1_any L k (w.drewN m) hn H.out.2.2
      have c2 := HS.out.2.1.cells.c2
      have c3 := HS.out.2.1.cells.c3
      obtain ⟨al, hal⟩ := l.ptr_shape
      obtain ⟨ar, har⟩ := r.ptr_shape
      rw [hal] at c2
      rw [har] at c3
      clear hn
      rcases ord_B.range k nk with hc | hc | hc
      · rw [hc] at hf
        have HX := hide (show l.ptr = .pointer al ∧ In w l ∧ l.find k = t.find k ∧ l.h < gk from ⟨hal, HS.out.2.1.2.1, by rw [← HS.out.2.2.1, find_node, if_pos hc], by have := HS.out.2.2.2; rw [T.h_node] at this; omega⟩)
        clear hal har hc
        go_wp2_with (go_at_call 80; refine hf.mono ?_; rintro e w' ⟨rfl, n, rfl⟩)
        go_roundg l.h
        case measure => exact HX.out.2.2.2
        case rel => exact ⟨l, al, m + n, rfl, hide ⟨HX.out.1, HX.out.2.1, HX.out.2.2.1, rfl⟩, rfl⟩
      · rw [hc] at hf
        have HE := hide (show (t.find k).ptr = .pointer (some ⟨p, 0, none⟩) by rw [← HS.out.2.2.1, find_node, if_neg (by omega), if_neg (by omega)]; rfl)
        clear hal har hc
        go_wp2_with (go_at_call 80; refine hf.mono ?_; rintro e w' ⟨rfl, n, rfl⟩)
        rw [Exit.noGoto_ret]
        go_ret
        exact ⟨by rw [HE.out]; rfl, m + n, rfl⟩
      · rw [hc] at hf
        have HX := hide (show r.ptr = .pointer ar ∧ In w r ∧ r.find k = t.find k ∧ r.h < gk from ⟨har, HS.out.2.1.2.2, by rw [← HS.out.2.2.1, find_node, if_neg (by omega), if_pos hc], by have := HS.out.2.2.2; rw [T.h_node] at this; omega⟩)
        clear hal har hc
        go_wp2_with (go_at_call 80; refine hf.mono ?_; rintro e w' ⟨rfl, n, rfl⟩)
        go_roundg r.h
        case measure => exact HX.out.2.2.2
        case rel => exact ⟨r, ar, m + n, rfl, hide ⟨HX.out.1, HX.out.2.1, HX.out.2.2.1, rfl⟩, rfl⟩
end Go.Proofs.YtkkpdgfllnbigaaGreatDoor.Pm
