/-
  MOVES for the statement KeysOrder: two and three operations that come up together and turn the world; texts laid on texts by append.
-/
import Derived.Test.YtcpigbojebjlaaaDoorTheory
namespace Go.Proofs.YtcpigbojebjlaaaDoor
open Go.RowKit Go.Shelf
set_option linter.unusedSimpArgs false

section
variable {P : Program} {md : Region.Mode} {ops : Array Oper} {Q : Exit → Act → World → Prop} {S : World → Prop} {fuel : Nat} {listed : Array Bool} {a : Act} {w : World}
/-- What an operation that comes up, and turns the world, leaves to be shown. -/
def Goes (P : Program) (md : Region.Mode) (ops : Array Oper) (Q : Exit → Act → World → Prop) (S : World → Prop) (fuel : Nat) (listed : Array Bool) (a : Act) (w : World) (i : Nat) : Prop :=
  ∃ (oi : Oper) (d : Tmp) (v : Value) (w' : World), ops[i]? = some oi ∧ oi.dst = some d ∧ Region.wanted oi (yielded ops a.tmps) = true ∧ (execOp a.eval oi).run P w = .ok (.value v) w' ∧ S w' ∧ wpAnyH P md ops Q S fuel (listed.setIfInBounds i true) (a.put (some d) v) w'
theorem Goes.mk {i : Nat} {oi : Oper} {d : Tmp} {OP : Op} {T : TypeId} {v : Value} {w' : World} (hi : ops[i]? = some oi) (hd : oi.dst = some d) (ho : oi.op = OP) (ht : oi.type = T) (hw : Region.wanted oi (yielded ops a.tmps) = true)
    (hy : (execOp a.eval { dst := none, op := OP, type := T, pos := "", after := #[], guard := none }).run P w = .ok (.value v) w') (hS : S w')
    (h : wpAnyH P md ops Q S fuel (listed.setIfInBounds i true) (a.put (some d) v) w') : Goes P md ops Q S fuel listed a w i :=
  ⟨oi, d, v, w', hi, hd, hw, by rw [exec_same a.eval oi ho ht]; exact hy, hS, h⟩
theorem goes1 {i : Nat} (hr : Region.ready md ops listed = [i]) (h1 : Goes P md ops Q S fuel listed a w i) : wpAnyH P md ops Q S (fuel + 1) listed a w := by
  obtain ⟨oi, di, v, w1, hi, hdi, hwi, hyi, hS1, k1⟩ := h1
  refine wpAnyH_ready hr (by simp) (AllReadyH.cons hi (fun K hK => ?_) AllReadyH.nil)
  rw [if_pos hwi]
  unfold Oper.wp
  rw [hyi]
  show K (a.put oi.dst v) w1
  rw [hdi]
  exact hK.out _ _ hS1 (fun _ => k1)
theorem goes2 {i j : Nat} (hr : Region.ready md ops listed = [i, j]) (h1 : Goes P md ops Q S fuel listed a w i) (h2 : Goes P md ops Q S fuel listed a w j) : wpAnyH P md ops Q S (fuel + 1) listed a w := by
  obtain ⟨oi, di, v, w1, hi, hdi, hwi, hyi, hS1, k1⟩ := h1
  obtain ⟨oj, dj, u, w2, hj, hdj, hwj, hyj, hS2, k2⟩ := h2
  refine wpAnyH_ready hr (by simp) (AllReadyH.cons hi (fun K hK => ?_) (AllReadyH.cons hj (fun K hK => ?_) AllReadyH.nil))
  · rw [if_pos hwi]
    unfold Oper.wp
    rw [hyi]
    show K (a.put oi.dst v) w1
    rw [hdi]
    exact hK.out _ _ hS1 (fun _ => k1)
  · rw [if_pos hwj]
    unfold Oper.wp
    rw [hyj]
    show K (a.put oj.dst u) w2
    rw [hdj]
    exact hK.out _ _ hS2 (fun _ => k2)
theorem goes3 {i j l : Nat} (hr : Region.ready md ops listed = [i, j, l]) (h1 : Goes P md ops Q S fuel listed a w i) (h2 : Goes P md ops Q S fuel listed a w j) (h3 : Goes P md ops Q S fuel listed a w l) : wpAnyH P md ops Q S (fuel + 1) listed a w := by
  obtain ⟨oi, di, v, w1, hi, hdi, hwi, hyi, hS1, k1⟩ := h1
  obtain ⟨oj, dj, u, w2, hj, hdj, hwj, hyj, hS2, k2⟩ := h2
  obtain ⟨ol, dl, t, w3, hl, hdl, hwl, hyl, hS3, k3⟩ := h3
  refine wpAnyH_ready hr (by simp) (AllReadyH.cons hi (fun K hK => ?_) (AllReadyH.cons hj (fun K hK => ?_) (AllReadyH.cons hl (fun K hK => ?_) AllReadyH.nil)))
  · rw [if_pos hwi]
    unfold Oper.wp
    rw [hyi]
    show K (a.put oi.dst v) w1
    rw [hdi]
    exact hK.out _ _ hS1 (fun _ => k1)
  · rw [if_pos hwj]
    unfold Oper.wp
    rw [hyj]
    show K (a.put oj.dst u) w2
    rw [hdj]
    exact hK.out _ _ hS2 (fun _ => k2)
  · rw [if_pos hwl]
    unfold Oper.wp
    rw [hyl]
    show K (a.put ol.dst t) w3
    rw [hdl]
    exact hK.out _ _ hS3 (fun _ => k3)
end

theorem app1 {W : World} {a : Option Addr} {c : Nat} {l : List ByteArray} (h : Rs W a l) (hn : a = none → c = 0) (hl : l.length ≤ 8796093021952) (B : Nat) (hB : B ≤ W.heap.size) :
    ∃ v W', (Builtin.append_ #[23, 23] 23 #[.slice none 0 0, .slice a l.length c]).run Tryd.prog W = .ok v W' ∧ Os W' B v l ∧ Below W.heap.size W W' := by
  obtain ⟨i0, hi, hz0, hz1, hz2⟩ := info_parts Tryd.info9
  cases a with
  | none =>
    have hl0 := h.1 rfl
    subst hl0
    have hc0 := hn rfl
    subst hc0
    exact ⟨_, W, run_append_owned_none W B 23 23 9 i0 1 Tryd.underlying23 hi (.slice none 0 0) 0 [] (World.ownsRow_nil _ _ _ _), Os.nil _ _, Below.refl _ _⟩
  | some ad =>
    obtain ⟨v', w', hr, h2, h3, _⟩ := run_append_own (P := Tryd.prog) W B 23 23 9 i0 (.string ⟨#[]⟩) 1 16 Tryd.underlying23 hi hz0 hz1 hz2 rfl (by decide) (.slice none 0 0) 0 [] (World.ownsRow_nil _ _ _ _) ad l.length c (l.map Value.string) (by simp) (fun j u hj => by
      rw [List.getElem?_map] at hj
      rcases hg : l[j]? with _ | s
      · rw [hg] at hj; cases hj
      · rw [hg] at hj; cases hj; exact h.2 ad rfl j s hg) (fun u hu => by simp at hu; obtain ⟨s, _, rfl⟩ := hu; rfl) (by unfold maxLen; omega) (by omega) hB
    refine ⟨v', w', hr, ?_, ?_⟩
    · simpa [Os] using h2
    · exact (Below.refl _ W).grown h3 (Nat.le_refl _) (fun k hk => by cases hk)
theorem app2 {W : World} {v : Value} {l : List ByteArray} {B g : Nat} {s : ByteArray} (h : Os W B v l) (hc : W.cell? ⟨g, 0, none⟩ = some (.string s)) (hl : l.length ≤ 8796093021952) (hB : B ≤ W.heap.size) :
    ∃ v' W', (Builtin.append_ #[23, 23] 23 #[v, .slice (some ⟨g, 0, none⟩) 1 1]).run Tryd.prog W = .ok v' W' ∧ Os W' B v' (l ++ [s]) ∧ W.grownBy W' v.ownBlock := by
  obtain ⟨i0, hi, hz0, hz1, hz2⟩ := info_parts Tryd.info9
  obtain ⟨v', w', hr, h2, h3, _⟩ := run_append_own (P := Tryd.prog) W B 23 23 9 i0 (.string ⟨#[]⟩) 1 16 Tryd.underlying23 hi hz0 hz1 hz2 rfl (by decide) v l.length _ h ⟨g, 0, none⟩ 1 1 [.string s] rfl (fun j u hj => by
    match j, hj with
    | 0, hj => simp at hj; subst hj; simpa [Addr.add] using hc) (fun u hu => by simp at hu; subst hu; rfl) (by unfold maxLen; omega) (by omega) hB
  refine ⟨v', w', hr, ?_, h3⟩
  unfold Os
  rw [List.length_append, List.map_append]
  exact h2
theorem three_set {w : World} {R : Nat} {x y z u v t : Value} {T : TypeId} (h : w.heap[R]? = some (.cells #[x, y, z] T (0, 0))) : (((w.setCell ⟨R, 0, none⟩ u).setCell ⟨R, 1, none⟩ v).setCell ⟨R, 2, none⟩ t).heap[R]? = some (.cells #[u, v, t] T (0, 0)) := by
  rw [heap_setCell_same _ _ _ _ T _ (heap_setCell_same _ _ _ _ T _ (heap_setCell_same _ _ _ _ T _ h))]; rfl
theorem three_only (w : World) (R : Nat) (u v t : Value) : Only (fun j => j = R) w (((w.setCell ⟨R, 0, none⟩ u).setCell ⟨R, 1, none⟩ v).setCell ⟨R, 2, none⟩ t) := (((Only.refl (fun j => j = R) w).setCell ⟨R, 0, none⟩ u (fun _ => rfl)).setCell ⟨R, 1, none⟩ v (fun _ => rfl)).setCell ⟨R, 2, none⟩ t (fun _ => rfl)
end Go.Proofs.YtcpigbojebjlaaaDoor
