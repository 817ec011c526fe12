/-
  A REGION THAT DRAWS ITS ORDER, IN AN ITERATOR: loads beside calls of yield. What yields its value in every world that meets S is taken first, as outside of a fence; a call of yield comes up alone. It names no function of the program.
  Cells that stay.
-/
import Derived.Test.YtkkpdgfllnbigaaGreatMg2
import Derived.OrdersHeld
namespace Go.Proofs.YtkkpdgfllnbigaaGreat.Pm
open Go.RowKit

section
variable {P : Program} {ops : Array Oper} {Q : Exit → Act → World → Prop} {n : Nat} {S : World → Prop}

/-- What comes up, whichever, leaves S. -/
def HIn (n : Nat) (P : Program) (ops : Array Oper) (Q : Exit → Act → World → Prop) (S : World → Prop) : Nat → Array Bool → Act → World → Prop
  | 0, listed, a, w => Region.ready .any ops listed = [] ∧ Q .normal a w
  | f + 1, listed, a, w => (Region.ready .any ops listed = [] → Q .normal a w) ∧ ∀ i ∈ Region.ready .any ops listed, wpOpIn Fence.wide n P ops Q i (fun a' w' => S w' ∧ HIn n P ops Q S f (listed.setIfInBounds i true) a' w') a w
theorem HIn.plain : ∀ {f : Nat} {listed : Array Bool} {a : Act} {w : World}, HIn n P ops Q S f listed a w → wpAnyIn Fence.wide n P .any ops Q f listed a w
  | 0, _, _, _, h => h
  | _ + 1, _, _, _, h => ⟨h.1, fun i hi => wpOpIn_mono (fun _ _ k => k.2.plain) (h.2 i hi)⟩

/-- An operation turns its own temporary alone, and what is deferred. -/
theorem in_shape {j : Nat} {oj : Oper} {K : Act → World → Prop} {a : Act} {w : World} (hj : ops[j]? = some oj) (h : wpOpIn Fence.wide n P ops Q j K a w) :
    wpOpIn Fence.wide n P ops Q j (fun a' w' => K a' w' ∧ ∃ u ds, a' = ({ a with defers := ds } : Act).put oj.dst u) a w := by
  unfold wpOpIn at *
  simp only [hj] at *
  by_cases hw : Region.wanted oj (yielded ops a.tmps) = true
  · rw [if_pos hw] at h ⊢
    refine ⟨h.1, ?_⟩
    have h := h.2
    generalize (oj.semAt Fence.wide.round a.eval).run P w = r at h ⊢
    rcases r with ⟨x, w'⟩ | ⟨x, w'⟩
    · cases x with
      | value v => exact ⟨h, v, a.defers, rfl⟩
      | skip => exact ⟨h, undef, a.defers, rfl⟩
      | defer d => exact ⟨h, undef, d :: a.defers, rfl⟩
      | enter f args =>
        refine ⟨h.1, h.2.mono fun e w'' he => ?_⟩
        rcases e with v | c | _
        · exact ⟨he, v, a.defers, rfl⟩
        · exact he
        · exact he
      | row r args => exact ⟨h.1, h.2.mono fun v w'' he => ⟨he, v, a.defers, rfl⟩⟩
      | round l f ts asg b =>
        refine ⟨h.1, h.2.mono fun e w'' he => ?_⟩
        rcases e with v | c | _
        · exact ⟨he, v, a.defers, rfl⟩
        · exact he
        · exact he
      | _ => exact h
    · cases x <;> exact h
  · rw [if_neg hw] at h ⊢
    exact ⟨h.1, h.2, undef, a.defers, rfl⟩

/-- One that is apart from a quiet one: both ways round. -/
theorem in_swap {j : Nat} {oi oj : Oper} {v : Value} {K : Act → World → Prop} {a : Act} {w : World} (hj : ops[j]? = some oj) (hap : oi.apart ops oj = true)
    (hsi : ∀ cs b, oi.op ≠ .select cs b) (hsj : ∀ cs b, oj.op ≠ .select cs b) (hQ : ∀ c a w, Q (.panic c) (a.put oi.dst v) w → Q (.panic c) a w)
    (hy : YieldsIf P ops S oi v a) (h : wpOpIn Fence.wide n P ops Q j K (a.put oi.dst v) w) :
    wpOpIn Fence.wide n P ops Q j (fun a' w' => YieldsIf P ops S oi v a' ∧ K (a'.put oi.dst v) w') a w := by
  obtain ⟨h1, h2, h3⟩ := Oper.apart_spec hap
  -- an operation that merely says v stands for the quiet one
  obtain ⟨o, ho⟩ : ∃ o : Oper, o = { oi with op := .move (.const v), guard := none } := ⟨_, rfl⟩
  have hd : o.dst = oi.dst := by rw [ho]
  have hl : o.looksAt ops = [] := by rw [ho]; simp [Oper.looksAt, Op.operands]
  have hapo : o.apart ops oj = true := by
    unfold Oper.apart
    rw [hd, hl]
    simp only [Bool.and_eq_true]
    refine ⟨?_, by cases oj.dst <;> rfl⟩
    cases e : oi.dst with
    | none => rfl
    | some d => simp [h1 d e, h2 d e]
  have hyo : YieldsFenced P ops o v a := by
    refine ⟨.inl ⟨by rw [ho]; rfl, fun w => ?_⟩, fun w => by rw [ho]; rfl⟩
    rw [ho]
    simp [execOp, Act.eval]
  have hh := wpOpIn_put (F := Fence.wide) (oi := o) rfl hj hapo (by rw [ho]; intro cs b e; cases e) hsj (by rw [hd]; exact hQ) hyo (by rw [hd]; exact h)
  rw [hd] at hh
  refine wpOpIn_mono ?_ (in_shape hj hh)
  rintro a' w' ⟨⟨_, hk⟩, u, ds, rfl⟩
  refine ⟨hy.of_same ?_ ?_, hk⟩
  · rw [execOp_put oi hsi _ oj.dst u h3]; rfl
  · rw [wanted_put oi _ oj.dst u h3]

/-- A quiet operation that may come up is taken first. -/
theorem HIn.take {i : Nat} {oi : Oper} {v : Value} (hi : ops[i]? = some oi) (hs : Region.noSelect ops = true) (hQ : ∀ c a w, Q (.panic c) (a.put oi.dst v) w → Q (.panic c) a w) :
    ∀ (f : Nat) {listed : Array Bool} {a : Act} {w : World}, Region.free .any ops listed i = true → i ∈ Region.ready .any ops listed → YieldsIf P ops S oi v a → S w →
      HIn n P ops Q S f (listed.setIfInBounds i true) (a.put oi.dst v) w → HIn n P ops Q S (f + 1) listed a w
  | f, listed, a, w, hf, hr, hy, hS, h => by
    refine ⟨fun e => absurd (e ▸ hr) List.not_mem_nil, fun j hj => ?_⟩
    by_cases e : j = i
    · subst e
      unfold wpOpIn
      simp only [hi]
      rcases hy with ⟨hw, hv⟩ | ⟨hw, rfl⟩
      · rw [if_pos hw]
        refine ⟨fun _ _ => trivial, ?_⟩
        rw [show oi.semAt Fence.wide.round a.eval = execOp a.eval oi from Oper.semAt_none _ _, hv w hS]
        exact ⟨hS, h⟩
      · rw [if_neg (by rw [hw]; exact Bool.false_ne_true)]
        exact ⟨fun _ _ => trivial, hS, h⟩
    · have hj2 := ready_mono hj e
      cases f with
      | zero => rw [h.1] at hj2; exact absurd hj2 List.not_mem_nil
      | succ f =>
        obtain ⟨hun, oj, hoj, hall⟩ := mem_ready.1 hj
        have hun_i := (mem_ready.1 hr).1
        have hnot : ∀ x ∈ oj.after, Region.binds .any x = true → x.on ≠ i := fun x hx hb he => by
          have q := hall x hx hb
          rw [he] at q
          simp only [Array.getD_eq_getD_getElem?] at q hun_i
          cases hq : listed[i]? with
          | none => rw [hq] at q; cases q
          | some b => rw [hq] at q hun_i; simp only [Option.getD_some] at q hun_i; rw [q] at hun_i; cases hun_i
        refine wpOpIn_mono (fun a' w' k => ⟨k.2.1, HIn.take hi hs hQ f ?_ (ready_mono hr (fun x => e x.symm)) k.1 k.2.1 ?_⟩) (in_swap hoj (Region.free_spec hi hf j oj hoj e hun hnot) (fun cs b => Region.noSelect_spec hs i oi cs b hi) (fun cs b => Region.noSelect_spec hs j oj cs b hoj) hQ hy (h.2 j hj2))
        · simp only [Region.free, hi, List.all_eq_true, List.mem_range] at hf ⊢
          intro k hk
          have := hf k hk
          by_cases ejk : j = k
          · subst ejk
            rw [hoj] at this ⊢
            have hlt : j < listed.size := by
              rcases Nat.lt_or_ge j listed.size with q | q
              · exact q
              · rw [Array.getD_eq_getD_getElem?, Array.getElem?_eq_none q] at hun; cases hun
            simp [hlt]
          · rw [getD_set_ne true ejk]
            exact this
        · rw [Array.setIfInBounds_comm _ _ e]
          exact k.2.2

theorem in_region {id : Nat} {a : Act} {w : World} (hm : P.follows .mixedOrders = true) (hS : S w.drew) (h : S w.drew → HIn n P ops Q S ops.size (Array.replicate ops.size false) a w.drew) : (Code.region id ops true).wpIn Fence.wide n P Q a w :=
  wpIn_region_any hm (h hS).plain
theorem in_done {f : Nat} {listed : Array Bool} {a : Act} {w : World} (hr : Region.ready .any ops listed = []) (h : Q .normal a w) : HIn n P ops Q S f listed a w := by
  cases f with
  | zero => exact ⟨hr, h⟩
  | succ f => exact ⟨fun _ => h, fun i hi => by rw [hr] at hi; exact absurd hi List.not_mem_nil⟩
theorem in_take {i : Nat} {oi : Oper} {d : Tmp} {OP : Op} {T : TypeId} {v : Value} {f : Nat} {listed : Array Bool} {a : Act} {w : World} (hi : ops[i]? = some oi) (hd : oi.dst = some d) (ho : oi.op = OP) (ht : oi.type = T)
    (hs : Region.noSelect ops = true) (hf : Region.free .any ops listed i = true) (hr : (Region.ready .any ops listed).contains i = true)
    (hQ : ∀ c a w, Q (.panic c) (a.put (some d) v) w → Q (.panic c) a w) (hw : Region.wanted oi (yielded ops a.tmps) = true)
    (hy : ∀ w, S w → (execOp a.eval { dst := none, op := OP, type := T, pos := "", after := #[], guard := none }).run P w = .ok (.value v) w) (hS : S w)
    (h : HIn n P ops Q S f (listed.setIfInBounds i true) (a.put (some d) v) w) : HIn n P ops Q S (f + 1) listed a w := by
  refine HIn.take (v := v) hi hs (by rw [hd]; exact hQ) f hf (by simpa using hr) (.inl ⟨hw, fun w hSw => ?_⟩) hS (by rw [hd]; exact h)
  rw [exec_same a.eval oi ho ht]
  exact hy w hSw
theorem in_pass {i : Nat} {oi : Oper} {d : Tmp} {f : Nat} {listed : Array Bool} {a : Act} {w : World} (hi : ops[i]? = some oi) (hd : oi.dst = some d)
    (hs : Region.noSelect ops = true) (hf : Region.free .any ops listed i = true) (hr : (Region.ready .any ops listed).contains i = true)
    (hQ : ∀ c a w, Q (.panic c) (a.put (some d) undef) w → Q (.panic c) a w) (hw : Region.wanted oi (yielded ops a.tmps) = false) (hS : S w)
    (h : HIn n P ops Q S f (listed.setIfInBounds i true) (a.put (some d) undef) w) : HIn n P ops Q S (f + 1) listed a w :=
  HIn.take (v := undef) hi hs (by rw [hd]; exact hQ) f hf (by simpa using hr) (.inr ⟨hw, rfl⟩) hS (by rw [hd]; exact h)
theorem in_call {i : Nat} {oi : Oper} {d : Tmp} {OP : Op} {T : TypeId} {g : FuncId} {args : Array Value} {f : Nat} {listed : Array Bool} {a : Act} {w : World} (hi : ops[i]? = some oi) (hd : oi.dst = some d) (ho : oi.op = OP) (ht : oi.type = T)
    (hr : Region.ready .any ops listed = [i]) (hw : Region.wanted oi (yielded ops a.tmps) = true)
    (hy : (execOp a.eval { dst := none, op := OP, type := T, pos := "", after := #[], guard := none }).run P w = .ok (.enter g args) w)
    (h : Calls P g args w fun e w' => ∃ v, e = .returned v ∧ S w' ∧ HIn n P ops Q S f (listed.setIfInBounds i true) (a.put (some d) v) w') : HIn n P ops Q S (f + 1) listed a w := by
  refine ⟨fun e => (by rw [hr] at e; cases e), fun j hj => ?_⟩
  rw [hr, List.mem_singleton] at hj
  subst hj
  unfold wpOpIn
  simp only [hi]
  rw [if_pos hw]
  refine ⟨fun _ _ => trivial, ?_⟩
  rw [show oi.semAt Fence.wide.round a.eval = execOp a.eval oi from Oper.semAt_none _ _, exec_same a.eval oi ho ht, hy]
  refine ⟨fun e => (by cases e), callsIn_wide.2 (h.mono ?_)⟩
  rintro e w' ⟨v, rfl, hS, hx⟩
  show S w' ∧ HIn n P ops Q S f _ (a.put oi.dst v) w'
  rw [hd]
  exact ⟨hS, hx⟩
theorem in_yield {i : Nat} {oi : Oper} {d : Tmp} {OP : Op} {T : TypeId} {l : Nat} {args : Array Value} {f : Nat} {listed : Array Bool} {a : Act} {w : World} (hi : ops[i]? = some oi) (hd : oi.dst = some d) (ho : oi.op = OP) (ht : oi.type = T)
    (hr : Region.ready .any ops listed = [i]) (hw : Region.wanted oi (yielded ops a.tmps) = true)
    (hy : (execOp a.eval { dst := none, op := OP, type := T, pos := "", after := #[], guard := none }).run P w = (Instr.yield l args).run P w)
    (h : YieldAt Fence.wide (n - 1) P l args w fun e w' => ∃ v, e = .returned v ∧ S w' ∧ HIn n P ops Q S f (listed.setIfInBounds i true) (a.put (some d) v) w') : HIn n P ops Q S (f + 1) listed a w := by
  refine ⟨fun e => (by rw [hr] at e; cases e), fun j hj => ?_⟩
  rw [hr, List.mem_singleton] at hj
  subst hj
  obtain ⟨fn, ts, asg, b, h1, h2⟩ := h
  unfold wpOpIn
  simp only [hi]
  rw [if_pos hw]
  refine ⟨fun _ _ => trivial, ?_⟩
  rw [show oi.semAt Fence.wide.round a.eval = execOp a.eval oi from Oper.semAt_none _ _, exec_same a.eval oi ho ht, hy, h1]
  refine ⟨fun e => (by cases e), h2.mono ?_⟩
  rintro e w' ⟨v, rfl, hS, hx⟩
  show S w' ∧ HIn n P ops Q S f _ (a.put oi.dst v) w'
  rw [hd]
  exact ⟨hS, hx⟩
end
end Go.Proofs.YtkkpdgfllnbigaaGreat.Pm
namespace Go.Proofs.YtkkpdgfllnbigaaGreat
open Go.RowKit Go.Shelf
theorem cell_stays {w w' : World} {a : Addr} {x : Value} (h : w.cell? a = some x) (hb : Below w.heap.size w w') : w'.cell? a = some x := by
  rw [hb.cell (World.block_lt_of_cell? w a h)]; exact h
theorem drew_below (W : World) : Below W.heap.size W W.drew := ⟨rfl, rfl, rfl, Nat.le_refl _, fun _ _ => rfl⟩
theorem below_drw {B : Nat} {w w' : World} (h : Below B w w') (n : Nat) : Below B w (w'.drewN n) := ⟨h.os, h.tape, h.output, h.size, h.block⟩
theorem set_one {w : World} {B i : Nat} {cs : Array Value} {ty : TypeId} (v : Value) (h : w.heap[B]? = some (.cells cs ty (0, 0))) : (w.setCell ⟨B, i, none⟩ v).heap[B]? = some (.cells (cs.setIfInBounds i v) ty (0, 0)) ∧ Only (fun j => j = B) w (w.setCell ⟨B, i, none⟩ v) := by
  refine ⟨?_, (Only.ofGrown (grown_setCell w ⟨B, i, none⟩ _)).mono (fun j _ e => by simpa using e.symm)⟩
  rw [heap_setCell_same _ _ _ _ ty _ h]
theorem Only.next {D : Nat → Prop} {a b c : World} (h : Only D a b) (k : Only D b c) : Only D a c := h.trans k (fun _ _ d => d)
theorem below_only {D : Nat → Prop} {W W' : World} (h : Below W.heap.size W W') : Only D W W' := (Only.ofBelow h).mono (fun _ _ d => d.elim)
end Go.Proofs.YtkkpdgfllnbigaaGreat
