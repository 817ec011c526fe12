/-
  register: Of (33).
-/
import Derived.Test.YtkkpdgfllnbigaaGreatMg11
import Derived.Test.YtkkpdgfllnbigaaGreatMg13
import Derived.Test.YtkkpdgfllnbigaaGreatKeyO
namespace Go.Proofs.YtkkpdgfllnbigaaGreat
open Go.RowKit Go.Shelf
set_option linter.unusedSimpArgs false
attribute [local go_sem] Oper.semAt_some

/-- Two operations that turn the world come up together in a region that draws its order. -/
theorem turn2_op {P : Program} {md : Region.Mode} {ops : Array Oper} {Q : Exit → Act → World → Prop} {S : World → Prop} {i j : Nat} {oi oj : Oper} {di dj : Tmp} {OPi OPj : Op} {Ti Tj : TypeId} {v u : Value} {fuel : Nat} {listed : Array Bool} {a : Act} {w wi wj : World}
    (hi : ops[i]? = some oi) (hdi : oi.dst = some di) (hoi : oi.op = OPi) (hti : oi.type = Ti) (hj : ops[j]? = some oj) (hdj : oj.dst = some dj) (hoj : oj.op = OPj) (htj : oj.type = Tj)
    (hr : Region.ready md ops listed = [i, j]) (hwi : Region.wanted oi (yielded ops a.tmps) = true) (hwj : Region.wanted oj (yielded ops a.tmps) = true)
    (hyi : (execOp a.eval { dst := none, op := OPi, type := Ti, pos := "", after := #[], guard := none }).run P w = .ok (.value v) wi)
    (hyj : (execOp a.eval { dst := none, op := OPj, type := Tj, pos := "", after := #[], guard := none }).run P w = .ok (.value u) wj)
    (hSi : S wi) (hSj : S wj)
    (h1 : wpAnyH P md ops Q S fuel (listed.setIfInBounds i true) (a.put (some di) v) wi) (h2 : wpAnyH P md ops Q S fuel (listed.setIfInBounds j true) (a.put (some dj) u) wj) : wpAnyH P md ops Q S (fuel + 1) listed a w := by
  refine wpAnyH_ready hr (by simp) (AllReadyH.cons hi (fun K hK => ?_) (AllReadyH.cons hj (fun K hK => ?_) AllReadyH.nil))
  · rw [if_pos hwi]
    unfold Oper.wp
    rw [exec_same a.eval oi hoi hti, hyi]
    show K (a.put oi.dst v) wi
    rw [hdi]
    exact hK.out _ _ hSi (fun _ => h1)
  · rw [if_pos hwj]
    unfold Oper.wp
    rw [exec_same a.eval oj hoj htj, hyj]
    show K (a.put oj.dst u) wj
    rw [hdj]
    exact hK.out _ _ hSj (fun _ => h2)
/-- One is laid behind; where the row then lies. -/
theorem push_OtW {w : World} {B b : Nat} {v : Value} {p : List ByteArray} {y : ByteArray} (hown : Ot w B v p) (hcell : w.heap[b]? = some (.cells #[.string y] 9 (0, 0))) (hp : p.length + 1 ≤ 1000000) (hB : B ≤ w.heap.size) :
    ∃ a' c' w', (Builtin.append_ #[63, 63] 63 #[v, .slice (some ⟨b, 0, none⟩) 1 1]).run Tryz.prog w = .ok (.slice a' (p.length + 1) c') w' ∧ Ot w' B (.slice a' (p.length + 1) c') (p ++ [y]) ∧ Only (fun k => v.ownBlock = some k) w w' ∧ Where w v (.slice a' (p.length + 1) c') := by
  obtain ⟨i0, hi, hz0, hz1, hz2⟩ := info_of info9t
  obtain ⟨v', w', hr, h2, h3, h4⟩ := append_where (P := Tryz.prog) w 63 63 9 i0 (.string ⟨#[]⟩) 1 16 Tryz.underlying63 hi hz0 hz1 hz2 rfl (by decide) v p.length (p.map Value.string) (hown.lift (Nat.zero_le _)) ⟨b, 0, none⟩ 1 1 [.string y] (by simp) (fun j u hj => by rw [add_lit, cell_of_row _ _ (0 + j) #[.string y] 9 (0, 0) hcell, Nat.zero_add]; simpa using hj) (fun u hu => strs_one (l := [y]) u (by simpa using hu)) (by unfold maxLen; omega) (by omega)
  have hO : Ot w' 0 v' (p ++ [y]) := by
    unfold Ot
    rw [List.map_append, List.length_append]
    exact h2
  obtain ⟨a', c', hv, _, _⟩ := row_form hO
  subst hv
  rw [List.length_append] at hO hr h4
  refine ⟨a', c', w', hr, ?_, Only.ofGrown h3, h4⟩
  rcases hO with ⟨q1, q2⟩
  refine ⟨q1, ?_⟩
  rcases q2 with q2 | ⟨g, cap, cur, e, hb, r⟩
  · exact .inl q2
  · refine .inr ⟨g, cap, cur, e, ?_, r⟩
    rcases h4 g (by rw [show (Value.slice a' (p.length + [y].length) c') = _ from e]; rfl) with h | h
    · exact (World.ownsRow.lt hown g h).1
    · omega
def okEl (x : El) : Bool := stV x.1 && txtB x.2
/-- What stands between turns. -/
structure OI (w0 : World) (B : Nat) (ks ts : List ByteArray) (kv tv : Value) (W : World) : Prop where
  low : Below B w0 W
  k : Ot W B kv ks
  t : Ot W B tv ts
  ne : ∀ j, kv.ownBlock = some j → tv.ownBlock ≠ some j
theorem OI.alloc {w0 : World} {B : Nat} {ks ts : List ByteArray} {kv tv : Value} {W : World} (h : OI w0 B ks ts kv tv W) (hB : B ≤ W.heap.size) (o : Obj) : OI w0 B ks ts kv tv (W.alloc o) := by
  have hb : Below W.heap.size W (W.alloc o) := (Below.refl _ W).alloc (Nat.le_refl _) _
  exact ⟨h.low.trans (hb.mono hB), h.k.below hb, h.t.below hb, h.ne⟩
theorem OI.below {w0 : World} {B : Nat} {ks ts : List ByteArray} {kv tv : Value} {W W' : World} (h : OI w0 B ks ts kv tv W) (hB : B ≤ W.heap.size) (hb : Below W.heap.size W W') : OI w0 B ks ts kv tv W' := ⟨h.low.trans (hb.mono hB), h.k.below hb, h.t.below hb, h.ne⟩
theorem OI.pushK {w0 : World} {B b : Nat} {ks ts : List ByteArray} {kv tv : Value} {W : World} {y : ByteArray} (h : OI w0 B ks ts kv tv W) (hB : B ≤ W.heap.size) (hp : ks.length ≤ 100000) (hc : W.heap[b]? = some (.cells #[.string y] 9 (0, 0))) :
    ∃ a' c' w', (Builtin.append_ #[63, 63] 63 #[kv, .slice (some ⟨b, 0, none⟩) 1 1]).run Tryz.prog W = .ok (.slice a' (ks.length + 1) c') w' ∧ OI w0 B (ks ++ [y]) ts (.slice a' (ks.length + 1) c') tv w' ∧ Only (fun k => kv.ownBlock = some k) W w' := by
  obtain ⟨a', c', w', hr, hO, ho, hw⟩ := push_OtW h.k hc (by omega) hB
  refine ⟨a', c', w', hr, ⟨Below.only h.low ho hB (fun j e => (World.ownsRow.lt h.k j e).1), hO, h.t.only ho (fun k hk e => h.ne k e hk), fun j hj e => ?_⟩, ho⟩
  rcases hw j hj with h1 | h1
  · exact h.ne j h1 e
  · have := (World.ownsRow.lt h.t j e).2; omega
theorem OI.pushT {w0 : World} {B b : Nat} {ks ts : List ByteArray} {kv tv : Value} {W : World} {y : ByteArray} (h : OI w0 B ks ts kv tv W) (hB : B ≤ W.heap.size) (hp : ts.length ≤ 100000) (hc : W.heap[b]? = some (.cells #[.string y] 9 (0, 0))) :
    ∃ a' c' w', (Builtin.append_ #[63, 63] 63 #[tv, .slice (some ⟨b, 0, none⟩) 1 1]).run Tryz.prog W = .ok (.slice a' (ts.length + 1) c') w' ∧ OI w0 B ks (ts ++ [y]) kv (.slice a' (ts.length + 1) c') w' ∧ Only (fun k => tv.ownBlock = some k) W w' := by
  obtain ⟨a', c', w', hr, hO, ho, hw⟩ := push_OtW h.t hc (by omega) hB
  refine ⟨a', c', w', hr, ⟨Below.only h.low ho hB (fun j e => (World.ownsRow.lt h.t j e).1), h.k.only ho (fun k hk e => h.ne k hk e), hO, fun j hj e => ?_⟩, ho⟩
  rcases hw j e with h1 | h1
  · exact h.ne j hj h1
  · have := (World.ownsRow.lt h.k j hj).2; omega
theorem OI.notK {w0 : World} {B j : Nat} {ks ts : List ByteArray} {kv tv : Value} {W : World} (h : OI w0 B ks ts kv tv W) (hj : W.heap.size ≤ j) : ¬ (kv.ownBlock = some j) := fun e => by have := (World.ownsRow.lt h.k j e).2; omega
theorem OI.notT {w0 : World} {B j : Nat} {ks ts : List ByteArray} {kv tv : Value} {W : World} (h : OI w0 B ks ts kv tv W) (hj : W.heap.size ≤ j) : ¬ (tv.ownBlock = some j) := fun e => by have := (World.ownsRow.lt h.t j e).2; omega
theorem Ot.cs {w : World} {B : Nat} {v : Value} {L : List ByteArray} (h : Ot w B v L) : Pm.Cs w v (L.map Value.string) := by
  rcases h with ⟨h1, h2⟩
  rcases h2 with ⟨e, e2⟩ | ⟨g, cap, cur, e, hb, hg, hnc, hcm, hcs, htake⟩
  · have : L = [] := List.eq_nil_of_length_eq_zero e2
    subst this
    exact ⟨none, 0, e, Nat.le_refl _, fun j u hj => by simp at hj⟩
  · refine ⟨some ⟨g, 0, none⟩, cap, by rw [e, List.length_map], by rw [List.length_map]; exact hnc, fun j u hj => ⟨g, 0, rfl, ?_⟩⟩
    rw [Nat.zero_add, cell_of_row _ _ j _ 9 (0, 0) hg]
    have hj' : j < (L.map Value.string).length := (List.getElem?_eq_some_iff.1 hj).1
    rw [← htake, List.getElem?_take] at hj
    split at hj
    · simpa using hj
    · cases hj
theorem keyT_size {s : St} (h : stV s = true) : (keyT s).size ≤ 100 := by
  have := S_bounds h
  unfold keyT keyS
  simp only [ByteArray.size_append, strOfNums_size, low_length, List.length_singleton]
  have h0 : (ByteArray.mk #[0]).size = 1 := rfl
  omega
end Go.Proofs.YtkkpdgfllnbigaaGreat
