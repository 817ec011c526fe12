/-
  journal: more entries, plainly.
  register: the walk of RegisterWrites (6).
-/
import Derived.Test.YtkkpdgfllnbigaaGreatMg21
import Derived.Test.YtkkpdgfllnbigaaGreatJoX
import Derived.Test.YtkkpdgfllnbigaaGreatJoK
import Derived.Test.YtkkpdgfllnbigaaGreatMg17
import Derived.Test.YtkkpdgfllnbigaaGreatMg15
import Derived.Deep.DeepCutAuto
import Derived.Deep.CutBlock
namespace Go.Proofs.YtkkpdgfllnbigaaGreat.Jo
open Go.RowKit Go.Shelf
set_option linter.unusedSimpArgs false
attribute [local go_sem] Oper.semAt_some

theorem els_more {l : List Kv} (hm : mayL l = true) {s : St} {X : ByteArray} (hv : stV s = true) (hx : txtB X = true) : mayL (l ++ [(keyT s, X)]) = true ∧ elsL (l ++ [(keyT s, X)]) = elsL l ++ [(s, X)] := by
  have h1 : mayL (l ++ [(keyT s, X)]) = true := by
    unfold mayL at hm ⊢
    rw [List.all_append, hm]
    simp [okKv, okV_key hv, hx]
  refine ⟨h1, ?_⟩
  rw [elsL, if_pos h1, elsL, if_pos hm]
  unfold elsM
  rw [List.map_append]
  simp [ofT_key hv]
theorem part_more {l : List El} {x : El} (u : UpS (l ++ [x])) : partF l (l ++ [x]) = true ∧ partF (l ++ [x]) l = false := by
  have ul : UpS l := (List.pairwise_append.1 u).1
  refine ⟨(partF_iff ul u).2 (fun y hy => List.mem_append_left _ hy), ?_⟩
  rw [Bool.eq_false_iff, Ne, partF_iff u ul]
  intro h
  have h1 := h x (by simp)
  exact ne_of_low ((List.pairwise_append.1 u).2.2 x h1 x (by simp)) rfl
theorem part_on {a b c : List El} (ua : UpS a) (ub : UpS b) (uc : UpS c) (h1 : partF a b = true) (h2 : partF b c = true) : partF a c = true :=
  (partF_iff ua uc).2 (fun x hx => (partF_iff ub uc).1 h2 x ((partF_iff ua ub).1 h1 x hx))
theorem part_self {a : List El} (ua : UpS a) : partF a a = true := (partF_iff ua ua).2 (fun _ h => h)
end Go.Proofs.YtkkpdgfllnbigaaGreat.Jo
namespace Go.Proofs.YtkkpdgfllnbigaaGreat
open Go.RowKit Go.Shelf
set_option linter.unusedSimpArgs false
attribute [local go_sem] Oper.semAt_some

theorem encE_np (x : El) (j : Nat) (u : Value) (h : (encE x)[j]? = some u) : ∀ p, u ≠ .pointer p := fun p e => by
  have hm := List.mem_of_getElem? h
  rw [e] at hm
  simp [encE] at hm
theorem flatE_np (l : List El) (j : Nat) (u : Value) (h : (flatE l)[j]? = some u) : ∀ p, u ≠ .pointer p := fun p e => by
  have hm := List.mem_of_getElem? h
  unfold flatE at hm
  obtain ⟨x, -, hx⟩ := List.mem_flatMap.1 hm
  obtain ⟨k, hk⟩ := List.mem_iff_getElem?.1 hx
  exact encE_np x k u hk p e
/-- Rows of elements do not lie in a map's box. -/
theorem Re.aside {w w' : World} {B : Nat} {p : Option Addr} {ao : Option Addr} {l : List El} (h : Re w ao l) (hw : w.heap[B]? = some (.cells #[.pointer p] 27 (0, 0))) (ho : Only (fun j => j = B) w w') : Re w' ao l := ⟨h.1, fun a ha j u hj => by
  have hc := h.2 a ha j u hj
  generalize a.add j = A at hc ⊢
  by_cases hb : A.block = B
  · exfalso
    have hsp := World.cell?_spot hc
    obtain ⟨bb, oo, sp⟩ := A
    simp only at hb hsp
    subst hb hsp
    rw [cell_of_row _ _ oo _ 27 (0, 0) hw] at hc
    have hm : u = .pointer p := by
      have := Array.mem_of_getElem? hc
      simpa using this
    exact flatE_np l j u hj p hm
  · exact ho.cell hc hb⟩
theorem Boxd.aside {w w' : World} {B C : Nat} {pt p : Option Addr} {t : Pm.T} (h : Boxd w B pt t) (hw : w.heap[C]? = some (.cells #[.pointer p] 27 (0, 0))) (ho : Only (fun j => j = C) w w') (hne : B ≠ C) : Boxd w' B pt t := ⟨(ho.block _ (gI h.1).1 hne).trans h.1, h.2.1, h.2.2.aside hw ho⟩
theorem lenP {w : World} {t : Pm.T} {pt : Option Addr} (h : Mg w t) (hp : t.ptr = .pointer pt) : Calls Tryz.prog 21 #[.agg #[.pointer pt]] w fun e w' => e = .returned (.int .i64 (t.n : Nat)) ∧ Below w.heap.size w w' := by
  have := Pm.mLen_any t w h.inn
  unfold Pm.mv at this
  rw [hp] at this
  exact this
end Go.Proofs.YtkkpdgfllnbigaaGreat
