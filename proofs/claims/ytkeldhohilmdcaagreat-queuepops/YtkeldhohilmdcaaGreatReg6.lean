/-
  register: Write (38), Three (45).
-/
import Derived.Test.YtkeldhohilmdcaaGreatReg5
import Derived.Test.YtkeldhohilmdcaaGreatEqs9
namespace Go.Proofs.YtkeldhohilmdcaaGreat
open Go.RowKit Go.Shelf
set_option linter.unusedSimpArgs false
attribute [local go_sem] Oper.semAt_some

theorem keyT_any (s : St) (w : World) : Calls Tryz.prog 107 #[svT s] w fun e w' => e = .returned (.tuple #[.string (if stV s then keyT s else ⟨#[]⟩), .int .i64 (if stV s then 0 else 2)]) ∧ Below w.heap.size w w' := key_any s.1 s.2.1 s.2.2.1 s.2.2.2.1 s.2.2.2.2 w
theorem leq_B (a b : ByteArray) : (Op.bytesLess a.toList b.toList || a.toList == b.toList) = !decide (Pm.cmpB b a = -1) := by
  rw [Pm.less_B]
  rcases Pm.cmp_three a b with h | h | h
  · have h2 : Pm.cmpB b a = 1 := by have := Pm.ord_B.anti a b; omega
    rw [h, h2]; rfl
  · subst h
    rw [Pm.ord_B.refl]
    simp
  · have h2 : Pm.cmpB a b = 1 := by have := Pm.ord_B.anti a b; omega
    have hne : (a.toList == b.toList) = false := by
      rw [Bool.eq_false_iff, Ne, bytes_same]
      intro e
      rw [e, Pm.ord_B.refl] at h
      cases h
    rw [h, h2, hne]; rfl
/-- May one be written behind these? -/
def okWr (l : List Kv) (s : St) (x : ByteArray) : Bool := stV s && txtB x && decide (Pm.cmpB ((l.getLast?.map Prod.fst).getD ⟨#[]⟩) (keyT s) = -1) && mayL l
theorem last_key (t : Pm.T) : t.last.key = (t.list.getLast?.map Prod.fst).getD ⟨#[]⟩ := by
  cases t with
  | nil => rfl
  | node p k v l r =>
    obtain ⟨p', k', v', l', rest, hf, hl, _⟩ := Pm.T.last_spec (t := .node p k v l r) (by simp)
    rw [hl, hf]
    simp [Pm.T.key]
/-- What a call that makes a map answers. -/
def MapE (w : World) (ec : Int) (P : Pm.T → Prop) (e : Ending) (w' : World) : Prop := ∃ t, e = .returned (.tuple #[Pm.mv t, .int .i64 ec]) ∧ Mg w' t ∧ P t ∧ Below w.heap.size w w'
theorem new4r (w : World) (o1 o2 o3 : Obj) (W : World) (hW : W = ((w.alloc o1).alloc o2).alloc o3) : W.heap[w.heap.size]? = some o1 ∧ W.heap[w.heap.size + 1]? = some o2 ∧ W.heap[w.heap.size + 1 + 1]? = some o3 ∧ Below w.heap.size w W := by rw [hW]; exact new3r w o1 o2 o3
theorem T27 : (Tryz.prog.info? 27).map (·.size) = some 1 := by kernel_rfl
end Go.Proofs.YtkeldhohilmdcaaGreat
