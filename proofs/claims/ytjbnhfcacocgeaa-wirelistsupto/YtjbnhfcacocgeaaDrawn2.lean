/-
  ONE MOVE MORE IN A REGION THAT DRAWS ITS ORDER: bytes that are read, laid on what is owned, by an append that comes up alone.
-/
import Derived.Test.YtjbnhfcacocgeaaDrawn
import Derived.Test.YtjbnhfcacocgeaaKit
namespace Go.Proofs.Ytjbnhfcacocgeaa
open Go.RowKit

theorem Own.form {e : TypeId} {w : World} {B : Nat} {v : Value} {l : List Int} (h : Own e w B v l) : ∃ ao cap, v = .slice ao l.length cap ∧ (ao = none → cap = 0) := by
  obtain ⟨ao, cap, rfl, _, _⟩ := h.shape
  refine ⟨ao, cap, rfl, fun hn => ?_⟩
  subst hn
  rcases h.2 with ⟨h1, _⟩ | ⟨g, c, cur, h1, _⟩
  · simp at h1; exact h1.2
  · simp at h1

theorem append_op {P : Program} {md : Region.Mode} {ops : Array Oper} {Q : Exit → Act → World → Prop} {S : World → Prop} {w : World} {i : Nat} {oi : Oper} {d : Tmp} {fuel : Nat} {listed : Array Bool} {a : Act} (s x : Operand) (t : TypeId) (hi : ops[i]? = some oi) (hd : oi.dst = some d)
    (ho : oi.op = .call { callee := .builtin .append, args := #[s, x], argTypes := #[t, t] })
    (hr : Region.ready md ops listed = [i]) (hw : Region.wanted oi (yielded ops a.tmps) = true)
    (B : Nat) (e : TypeId) (i0 : TypeInfo) (ht : P.underlying t = some (.slice e)) (hi0 : P.info? e = some i0) (hz : i0.zero = some (.int .u8 0))
    (hsize : i0.size = 1) (hby : i0.bytes = 1)
    (v : Value) (p : List Int) (hs : a.eval s = v) (hown : Own e w B v p)
    (ao : Option Addr) (c : Nat) (l : List Int) (hx : a.eval x = .slice ao l.length c) (hc : ao = none → c = 0) (hrd : Rd w ao l)
    (hbytes : p.length + l.length ≤ 140737488355328) (hbase : B ≤ w.heap.size)
    (h : ∀ ao' cap' w', Own e w' B (.slice ao' (p.length + l.length) cap') (p ++ l) → w.grownBy w' v.ownBlock → (ao' = none → cap' = 0) →
      S w' ∧ wpAnyH P md ops Q S fuel (listed.setIfInBounds i true) (a.put (some d) (.slice ao' (p.length + l.length) cap')) w') : wpAnyH P md ops Q S (fuel + 1) listed a w := by
  refine wpAnyH_ready hr (by simp) (AllReadyH.cons hi (fun K hK => ?_) AllReadyH.nil)
  rw [if_pos hw]
  have fin : ∀ v' w', Own e w' B v' (p ++ l) → w.grownBy w' v.ownBlock → K (a.put oi.dst v') w' := fun v' w' h1 h2 => by
    obtain ⟨ao', cap', rfl, hn⟩ := h1.form
    rw [hd]
    obtain ⟨k1, k2⟩ := h ao' cap' w' (by simpa using h1) h2 hn
    refine hK.out _ _ k1 (fun _ => ?_)
    simpa using k2
  cases ao with
  | none =>
    have hl := hrd.1 rfl
    subst hl
    have hc0 := hc rfl
    subst hc0
    have hrun := run_append_owned_none (P := P) (w := w) B t oi.type e i0 1 ht hi0 v _ _ hown
    have hx' : a.eval x = .slice none 0 0 := hx
    unfold Oper.wp
    simp [execOp, ho, resolve, invoke, builtin, hs, hx', hrun, Result.andThen]
    exact fin v w (by simpa using hown) (World.grownBy.refl _ _)
  | some ad =>
    refine wp_append_own w s x t ho B e i0 (.int .u8 0) 1 1 ht hi0 hz hsize hby rfl (by decide) v _ _ hs hown ad l.length c (u8s l) hx (by simp [u8s]) (fun j u hj => hrd.2 ad rfl j u hj) u8s_one
      (by unfold maxLen; omega) (by omega) hbase ?_
    intro v' w' hown' hg _
    exact fin v' w' (by unfold Own; rw [u8s_append, List.length_append]; exact hown') hg
end Go.Proofs.Ytjbnhfcacocgeaa
