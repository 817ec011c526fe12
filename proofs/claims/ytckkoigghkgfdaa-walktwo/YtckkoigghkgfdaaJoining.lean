/-
  JOINING: both sides joined with a node's key and value; of its own sides the node itself. Pointers to nodes held against each other.
-/
import Derived.Test.YtckkoigghkgfdaaJoin2
import Derived.Test.YtckkoigghkgfdaaTakes
import Derived.LaidEqlPtr
namespace Go.Proofs.Ytckkoigghkgfdaa
open Go.RowKit Go.Shelf
set_option linter.unusedSimpArgs false

theorem In.inj {w : World} : ∀ {a b : T}, In w a → In w b → a.ptr = b.ptr → a = b
  | .nil, .nil, _, _, _ => rfl
  | .nil, .node .., _, _, h => by simp [T.ptr] at h
  | .node .., .nil, _, _, h => by simp [T.ptr] at h
  | .node p k v l r, .node q k' v' l' r', ha, hb, h => by
    simp only [T.ptr, Value.pointer.injEq, Option.some.injEq, Addr.mk.injEq, and_true] at h
    subst h
    have e := ha.1.symm.trans hb.1
    simp only [Option.some.injEq, Obj.cells.injEq, Array.mk.injEq, List.cons.injEq, Value.string.injEq, Value.int.injEq, true_and, and_true] at e
    obtain ⟨rfl, rfl, e1, e2, _⟩ := e
    rw [In.inj ha.2.1 hb.2.1 e1, In.inj ha.2.2 hb.2.2 e2]

theorem Try.info83 : (Try.prog.info? 83).map (fun i => i.size) = some 6 := by kernel_rfl
theorem eql_same (t : T) (W : World) : (binOp .eql 27 t.ptr t.ptr).run Try.prog W = .ok (.bool true) W := by
  obtain ⟨j, hj, _⟩ := Option.map_eq_some_iff.1 Try.info83
  cases t with
  | nil => exact run_eql_pointer_nil W 27 none (by kernel_rfl)
  | node p k v l r => exact run_eql_ptr_same W _ Try.underlying27 hj
theorem eql_other {a b : T} {W : World} (ha : In W a) (hb : In W b) (hne : a ≠ b) : (binOp .eql 27 a.ptr b.ptr).run Try.prog W = .ok (.bool false) W := by
  obtain ⟨j, hj, hs⟩ := Option.map_eq_some_iff.1 Try.info83
  cases a with
  | nil =>
    cases b with
    | nil => exact (hne rfl).elim
    | node p k v l r =>
      have h : ∀ d : Nat, (Op.equalIn (d + 1) 27 (.pointer none) (.pointer (some ⟨p, 0, none⟩))).run Try.prog W = .ok false W := fun d => by
        simp [Op.equalIn, run_underlying Try.underlying27]
      simp only [T.ptr, binOp]
      simp [Op.equal, Op.maxDepth, h 9999]
  | node p k v l r =>
    cases b with
    | nil => exact run_eql_pointer_nil W 27 (some ⟨p, 0, none⟩) (by kernel_rfl)
    | node q k' v' l' r' =>
      refine run_eql_ptr_other W Try.underlying27 hj (by omega) ?_ ha.1 hb.1
      intro e
      exact hne (In.inj ha hb (by simp only [T.ptr]; rw [e]))

set_option maxHeartbeats 2000000 in
set_option maxRecDepth 100000 in
theorem joining_any {p : Nat} {k : ByteArray} {v : Int} {nl nr : T} (l r : T) (w : World) (hN : In w (.node p k v nl nr)) (hl : In w l) (hr : In w r) (hn : l.n + r.n ≤ 800000) :
    Calls Try.prog 62 #[.pointer (some ⟨p, 0, none⟩), l.ptr, r.ptr] w fun e w' => ∃ t, Gives w e w' t ∧ Joins w.heap.size p k v nl nr l r t := by
  obtain ⟨c0, c1, c2, c3, c4, c5⟩ := hN.cells
  by_cases hb : l = nl ∧ r = nr
  · obtain ⟨rfl, rfl⟩ := hb
    have hfin : Gives w (.returned (T.node p k v l r).ptr) w (T.node p k v l r) := ⟨rfl, hN, Below.refl _ _⟩
    have HF := hide hfin
    have q1 := eql_same l w
    have q2 := eql_same r w
    obtain ⟨a, ha⟩ := l.ptr_shape
    obtain ⟨b, hb⟩ := r.ptr_shape
    rw [ha] at c2 q1 ⊢
    rw [hb] at c3 q2 ⊢
    clear hfin c0 c1 c4 c5 hN hl hr ha hb hn
    go_enter Try.func62, Try.ntmps62
    go_wp2
    go_ret
    exact ⟨_, HF.out, .inl ⟨rfl, rfl, rfl⟩⟩
  · have hj := join_any k v 800000 l r w.drew hn (by omega) hl.drew hr.drew
    have hG : ∀ e w' t, Gives w.drew e w' t → Joined w.drew.heap.size k v l r t → Hid (∃ t, Gives w e w' t ∧ Joins w.heap.size p k v nl nr l r t) ∧ Below w.heap.size w w' ∧ e = .returned t.ptr := fun e w' t hg hj => ⟨hide ⟨t, hg.grow (Below.refl _ w).drew, .inr ⟨hb, hj⟩⟩, (hg.grow (Below.refl _ w).drew).2.2, hg.1⟩
    have hq : ((binOp .eql 27 l.ptr nl.ptr).run Try.prog w = .ok (.bool false) w) ∨ (((binOp .eql 27 l.ptr nl.ptr).run Try.prog w = .ok (.bool true) w) ∧ ((binOp .eql 27 r.ptr nr.ptr).run Try.prog w = .ok (.bool false) w)) := by
      by_cases h1 : l = nl
      · subst h1
        exact .inr ⟨eql_same l w, eql_other hr hN.2.2 (fun h => hb ⟨rfl, h⟩)⟩
      · exact .inl (eql_other hl hN.2.1 h1)
    obtain ⟨a, ha⟩ := l.ptr_shape
    obtain ⟨b, hb'⟩ := r.ptr_shape
    obtain ⟨na, hna⟩ := nl.ptr_shape
    obtain ⟨nb, hnb⟩ := nr.ptr_shape
    rw [ha, hb', hna, hnb] at hq
    rw [ha, hb'] at hj ⊢
    rw [hna] at c2
    rw [hnb] at c3
    have hS : w.cell? ⟨p, 0, none⟩ = some (.string k) ∧ w.cell? ⟨p, 1, none⟩ = some (.int .i64 v) := ⟨c0, c1⟩
    clear c4 c5 hN hl hr hn ha hb' hna hnb hb c0 c1
    rcases hq with q1 | ⟨q1, q2⟩
    all_goals
      go_enter Try.func62, Try.ntmps62
      go_wp2_with fail
      go_region_held3 (fun w' => w'.cell? ⟨p, 0, none⟩ = some (.string k) ∧ w'.cell? ⟨p, 1, none⟩ = some (.int .i64 v)) (first | exact hS | exact keep2 hS (by assumption))
        (first | (go_at_call 68; refine hj.mono ?_; rintro e w' ⟨t, hg, hj2⟩; obtain ⟨HG, hb2, he⟩ := hG e w' t hg hj2; clear hg hj2; obtain ⟨at_, hat⟩ := t.ptr_shape; rw [hat] at he; subst he))
      go_wp2
      go_ret
      exact HG.out
end Go.Proofs.Ytckkoigghkgfdaa
