/-
  FRAMES IN MEMORY: a slice of frames that is owned, each body in a block of its own; one frame more. Plain regions within a round.
-/
import Derived.Test.YtmabfaldndlneaaRange
namespace Go.Proofs.Ytmabfaldndlneaa
open Go.RowKit Go.Shelf
set_option linter.unusedSimpArgs false

section
variable {P : Program} {ops : Array Oper} {Q : Exit → Act → World → Prop} {r n : Nat}
theorem wpOps_in (hd : ∀ (j : Nat) (o : Oper), ops[j]? = some o → ∀ c, o.op ≠ .defer c) (hQ : ∀ a w, Q .outgrown a w → False) :
    ∀ (l : List Nat) (a : Act) (w : World), wpOps P ops Q l a w → wpOpsIn (Fence.wide.inRound r) n P ops Q l a w
  | [], _, _, h => h
  | i :: l, a, w, h => by
    rw [wpOps_cons] at h
    rw [wpOpsIn_cons]
    exact wpOp_in hd hQ (fun a w => wpOps_in hd hQ l a w) h
/-- A plain region within a round. -/
theorem plain_in {id : Nat} {l : List Oper} {a : Act} {w : World} (hd : l.all (fun o => match o.op with | .defer _ => false | _ => true) = true) (hQ : ∀ a w, Q .outgrown a w → False)
    (h : wpList P l.toArray Q l a w) : (Code.region id l.toArray false).wpIn (Fence.wide.inRound r) n P Q a w := by
  refine wpIn_region_lit ?_
  rw [← wpOpsIn_eq_wpListIn (ops := l.toArray) l 0 (by simp)]
  rw [← wpOps_eq_wpList (ops := l.toArray) l 0 (by simp)] at h
  refine wpOps_in (fun j o ho c e => ?_) hQ _ _ _ h
  have := List.all_eq_true.1 hd o (List.mem_of_getElem? (by simpa using ho))
  simp [e] at this
end
/-- An operation of a plain region that turns the world. -/
theorem wpList_turn {P : Program} {ops : Array Oper} {rest : List Oper} {o : Oper} {a : Act} {w w' : World} {Q : Exit → Act → World → Prop} {OP : Op} {T : TypeId} {v : Value} (hgd : o.guard = none) (ho : o.op = OP) (ht : o.type = T)
    (hy : (execOp a.eval { dst := none, op := OP, type := T, pos := "", after := #[], guard := none }).run P w = .ok (.value v) w') (h : wpList P ops Q rest (a.put o.dst v) w') : wpList P ops Q (o :: rest) a w :=
  wpList_plain hgd fun K hK => by
    unfold Oper.wp
    rw [exec_same a.eval o ho ht, hy]
    exact hK _ _ h

/-- What the cells of frames say. -/
structure Its (w : World) (B : Nat) (F : List Fr) (xs : List Value) : Prop where
  len : xs.length = 2 * F.length
  get : ∀ i f, F[i]? = some f → ∃ ao c, xs[2 * i]? = some (.int .i64 f.kind) ∧ xs[2 * i + 1]? = some (.slice ao f.body.length c) ∧ Own 5 w B (.slice ao f.body.length c) f.body ∧ (ao = none → c = 0)
  apart : ∀ i j v v' n, i < j → xs[2 * i + 1]? = some v → xs[2 * j + 1]? = some v' → v.ownBlock = some n → v'.ownBlock ≠ some n
/-- A slice of frames that is owned. -/
structure Fms (w : World) (B : Nat) (v : Value) (F : List Fr) (xs : List Value) : Prop where
  row : w.ownsRow 0 36 2 v F.length xs
  lo : ∀ n, v.ownBlock = some n → B ≤ n
  it : Its w B F xs
  off : ∀ i u n, xs[2 * i + 1]? = some u → u.ownBlock = some n → v.ownBlock ≠ some n
section
variable {w w' : World} {B : Nat} {v : Value} {F : List Fr} {xs : List Value}
theorem Fms.nil (w : World) (B : Nat) : Fms w B (.slice none 0 0) [] [] :=
  ⟨World.ownsRow_nil _ _ _ _, by simp [Value.ownBlock], ⟨rfl, by simp, by simp⟩, by simp⟩
/-- Where a body lies. -/
theorem Its.body (h : Its w B F xs) {i : Nat} {u : Value} {n : Nat} (hu : xs[2 * i + 1]? = some u) (hn : u.ownBlock = some n) : B ≤ n ∧ n < w.heap.size := by
  have hi : i < F.length := by have := (List.getElem?_eq_some_iff.1 hu).1; have := h.len; omega
  obtain ⟨ao, c, _, h2, h3, _⟩ := h.get i _ (List.getElem?_eq_getElem hi)
  rw [hu] at h2
  cases h2
  exact own_new h3 n hn
theorem Fms.only (h : Fms w B v F xs) {D : Nat → Prop} (k : Only D w w') (hD : ∀ j, B ≤ j → j < w.heap.size → ¬ D j) : Fms w' B v F xs where
  row := k.row h.row (fun n hn => hD n (h.lo n hn) (World.ownsRow.lt h.row n hn).2)
  lo := h.lo
  it := ⟨h.it.len, fun i f hf => by
    obtain ⟨ao, c, h1, h2, h3, h4⟩ := h.it.get i f hf
    exact ⟨ao, c, h1, h2, k.own h3 (fun n hn => hD n (own_new h3 n hn).1 (own_new h3 n hn).2), h4⟩, h.it.apart⟩
  off := h.off
theorem Fms.below (h : Fms w B v F xs) (k : Below w.heap.size w w') : Fms w' B v F xs := h.only (Only.ofBelow k) (fun _ _ _ d => d.elim)
theorem get_snoc {i : Nat} {a b u : Value} (hl : xs.length = 2 * F.length) (hu : (xs ++ [a, b])[2 * i + 1]? = some u) : (i < F.length ∧ xs[2 * i + 1]? = some u) ∨ (i = F.length ∧ u = b) := by
  have hlt := (List.getElem?_eq_some_iff.1 hu).1
  simp at hlt
  by_cases hi : i < F.length
  · rw [List.getElem?_append_left (by omega)] at hu
    exact .inl ⟨hi, hu⟩
  · obtain rfl : i = F.length := by omega
    rw [List.getElem?_append_right (by omega)] at hu
    rw [show 2 * F.length + 1 - xs.length = 1 by omega] at hu
    simp at hu
    exact .inr ⟨rfl, hu.symm⟩
/-- One frame more. -/
theorem Fms.snoc (h : Fms w B v F xs) {f : Fr} {ao : Option Addr} {c m : Nat} (ho : Own 5 w m (.slice ao f.body.length c) f.body) (hn : ao = none → c = 0) (hm : ∀ n, B ≤ n → (v.ownBlock = some n ∨ ∃ i u, xs[2 * i + 1]? = some u ∧ u.ownBlock = some n) → n < m) (hB : B ≤ m) {v' : Value}
    (hrow : w'.ownsRow 0 36 2 v' (F.length + 1) (xs ++ [.int .i64 f.kind, .slice ao f.body.length c])) (hg : w.grownBy w' v.ownBlock) (hW : Where w v v') (hBw : B ≤ w.heap.size) : Fms w' B v' (F ++ [f]) (xs ++ [.int .i64 f.kind, .slice ao f.body.length c]) := by
  have hl := h.it.len
  have hon := Only.ofGrown hg
  have hnew : ∀ n, Value.ownBlock (.slice ao f.body.length c) = some n → m ≤ n ∧ n < w.heap.size := own_new ho
  refine ⟨by simpa using hrow, fun n hn => ?_, ⟨by simp; omega, fun i g hi => ?_, fun i j u u' n hij hu hu' hn hn' => ?_⟩, fun i u n hu hn hv => ?_⟩
  · rcases hW n hn with q | q
    · exact h.lo n q
    · omega
  · by_cases hif : i < F.length
    · rw [List.getElem?_append_left hif] at hi
      obtain ⟨ao', c', h1, h2, h3, h4⟩ := h.it.get i g hi
      refine ⟨ao', c', by rw [List.getElem?_append_left (by omega)]; exact h1, by rw [List.getElem?_append_left (by omega)]; exact h2, hon.own h3 (fun n hn e => h.off i _ n h2 hn e), h4⟩
    · have hie := (List.getElem?_eq_some_iff.1 hi).1
      simp at hie
      obtain rfl : i = F.length := by omega
      rw [List.getElem?_append_right (by omega)] at hi
      simp at hi
      subst hi
      refine ⟨ao, c, ?_, ?_, (hon.own ho (fun n hn e => ?_)).lift hB, hn⟩
      · rw [List.getElem?_append_right (by omega), show 2 * F.length - xs.length = 0 by omega]; rfl
      · rw [List.getElem?_append_right (by omega), show 2 * F.length + 1 - xs.length = 1 by omega]; rfl
      · have := (hnew n hn).1
        have := hm n (h.lo n e) (.inl e)
        omega
  · rcases get_snoc hl hu with ⟨q1, q2⟩ | ⟨q1, rfl⟩
    · rcases get_snoc hl hu' with ⟨p1, p2⟩ | ⟨p1, rfl⟩
      · exact h.it.apart i j u u' n hij q2 p2 hn hn'
      · have := (hnew n hn').1
        have := hm n (h.it.body q2 hn).1 (.inr ⟨i, u, q2, hn⟩)
        omega
    · rcases get_snoc hl hu' with ⟨p1, p2⟩ | ⟨p1, rfl⟩ <;> omega
  · rcases hW n hv with q | q
    · rcases get_snoc hl hu with ⟨q1, q2⟩ | ⟨q1, rfl⟩
      · exact h.off i u n q2 hn q
      · have := (hnew n hn).1
        have := hm n (h.lo n q) (.inl q)
        omega
    · rcases get_snoc hl hu with ⟨q1, q2⟩ | ⟨q1, rfl⟩
      · have := (h.it.body q2 hn).2; omega
      · have := (hnew n hn).2; omega
end
end Go.Proofs.Ytmabfaldndlneaa
