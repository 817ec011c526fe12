/-
  register: what is gathered over All (86, 88), Elements (43), Texts (44).
-/
import Derived.Test.YtkeldhohilmdcaaGreatReg2
import Derived.Test.YtkeldhohilmdcaaGreatCmps
import Derived.Test.YtkeldhohilmdcaaGreatPMaps2
namespace Go.Proofs.YtkeldhohilmdcaaGreat
open Go.RowKit Go.Shelf
set_option linter.unusedSimpArgs false
attribute [local go_sem] Oper.semAt_some

def Ot (w : World) (B : Nat) (v : Value) (L : List ByteArray) : Prop := w.ownsRow B 9 1 v L.length (L.map Value.string)
theorem Ot.nil (w : World) (B : Nat) : Ot w B (.slice none 0 0) [] := World.ownsRow_nil _ _ _ _
theorem Ot.only {w w' : World} {B : Nat} {v : Value} {L : List ByteArray} {D : Nat → Prop} (h : Ot w B v L) (ho : Only D w w') (hv : ∀ k, v.ownBlock = some k → ¬ D k) : Ot w' B v L := ho.row h hv
theorem Ot.below {w w' : World} {B : Nat} {v : Value} {L : List ByteArray} (h : Ot w B v L) (hb : Below w.heap.size w w') : Ot w' B v L := h.only (Only.ofBelow hb) (fun _ _ d => d.elim)
theorem info9t : (Tryz.prog.info? 9).map (fun i => (i.zero, i.size, i.bytes)) = some (some (.string ⟨#[]⟩), 1, 16) := by kernel_rfl
theorem strs_one {l : List ByteArray} (v : Value) (h : v ∈ l.map Value.string) : v.oneCell' = true := by
  obtain ⟨s, -, rfl⟩ := List.mem_map.1 h; rfl
/-- One is laid behind. -/
theorem push_Oe {w : World} {B b : Nat} {v : Value} {p : List El} {y : El} (hown : Oe w B v p) (hcell : w.heap[b]? = some (.cells (encE y).toArray 53 (0, 0))) (hp : p.length + 1 ≤ 1000000) (hB : B ≤ w.heap.size) :
    ∃ a' c' w', (Builtin.append_ #[22, 22] 22 #[v, .slice (some ⟨b, 0, none⟩) 1 1]).run Tryz.prog w = .ok (.slice a' (p.length + 1) c') w' ∧ Oe w' B (.slice a' (p.length + 1) c') (p ++ [y]) ∧ Only (fun k => v.ownBlock = some k) w w' := by
  obtain ⟨i0, hi, hz0, hz1, hz2⟩ := info_of info77
  obtain ⟨v', w', hr, h2, h3, _⟩ := run_append_own (P := Tryz.prog) w B 22 22 53 i0 zeroE 6 64 Tryz.underlying22 hi hz0 hz1 hz2 rfl (by decide) v p.length (flatE p) hown ⟨b, 0, none⟩ 1 1 (encE y) (by simp [encE]) (fun j u hj => by rw [add_lit, cell_of_row _ _ (0 + j) (encE y).toArray 53 (0, 0) hcell, Nat.zero_add]; simpa using hj) (fun u hu => flatE_one [y] u (by simpa [flatE] using hu)) (by unfold maxLen; omega) (by omega) hB
  have hO : Oe w' B v' (p ++ [y]) := by
    unfold Oe
    rw [flatE_app, List.length_append, show flatE [y] = encE y by simp [flatE]]
    exact h2
  obtain ⟨a', c', hv, _, _⟩ := row_form hO
  subst hv
  rw [List.length_append] at hO hr
  exact ⟨a', c', w', hr, hO, Only.ofGrown h3⟩
theorem push_Ot {w : World} {B b : Nat} {v : Value} {p : List ByteArray} {y : ByteArray} (hown : Ot w B v p) (hcell : w.heap[b]? = some (.cells #[.string y] 9 (0, 0))) (hp : p.length + 1 ≤ 1000000) (hB : B ≤ w.heap.size) :
    ∃ a' c' w', (Builtin.append_ #[63, 63] 63 #[v, .slice (some ⟨b, 0, none⟩) 1 1]).run Tryz.prog w = .ok (.slice a' (p.length + 1) c') w' ∧ Ot w' B (.slice a' (p.length + 1) c') (p ++ [y]) ∧ Only (fun k => v.ownBlock = some k) w w' := by
  obtain ⟨i0, hi, hz0, hz1, hz2⟩ := info_of info9t
  obtain ⟨v', w', hr, h2, h3, _⟩ := run_append_own (P := Tryz.prog) w B 63 63 9 i0 (.string ⟨#[]⟩) 1 16 Tryz.underlying63 hi hz0 hz1 hz2 rfl (by decide) v p.length (p.map Value.string) hown ⟨b, 0, none⟩ 1 1 [.string y] (by simp) (fun j u hj => by rw [add_lit, cell_of_row _ _ (0 + j) #[.string y] 9 (0, 0) hcell, Nat.zero_add]; simpa using hj) (fun u hu => strs_one (l := [y]) u (by simpa using hu)) (by unfold maxLen; omega) (by omega) hB
  have hO : Ot w' B v' (p ++ [y]) := by
    unfold Ot
    rw [List.map_append, List.length_append]
    exact h2
  obtain ⟨a', c', hv, _, _⟩ := row_form hO
  subst hv
  rw [List.length_append] at hO hr
  exact ⟨a', c', w', hr, hO, Only.ofGrown h3⟩
theorem exec_bs53 {ev' : Operand → Value} {x : Operand} {T : TypeId} {w : World} {y : El} (hx : ev' x = ev y) : (execOp ev' { dst := none, op := .buildSlice 22 1 #[(0, x)], type := T, pos := "", after := #[], guard := none }).run Tryz.prog w = .ok (.value (.slice (some ⟨w.heap.size, 0, none⟩) 1 1)) (w.alloc (.cells (encE y).toArray 53)) := by
  unfold execOp
  simp only [hx]
  go_simp
  rfl
theorem exec_bs9 {ev' : Operand → Value} {x : Operand} {T : TypeId} {w : World} {y : ByteArray} (hx : ev' x = .string y) : (execOp ev' { dst := none, op := .buildSlice 63 1 #[(0, x)], type := T, pos := "", after := #[], guard := none }).run Tryz.prog w = .ok (.value (.slice (some ⟨w.heap.size, 0, none⟩) 1 1)) (w.alloc (.cells #[.string y] 9)) := by
  unfold execOp
  simp only [hx]
  go_simp
theorem exec_st22 {ev' : Operand → Value} {x y : Operand} {T : TypeId} {w : World} {B : Nat} {u : Value} {n c : Nat} {ad : Option Addr} (hx : ev' x = .pointer (some ⟨B, 0, none⟩)) (hy : ev' y = .slice ad n c) (h : w.cell? ⟨B, 0, none⟩ = some u) (hf : w.frozen? ⟨B, 0, none⟩ = false) : (execOp ev' { dst := none, op := .store 22 x y, type := T, pos := "", after := #[], guard := none }).run Tryz.prog w = .ok .skip (w.setCell ⟨B, 0, none⟩ (.slice ad n c)) := by
  unfold execOp
  simp only [hx, hy]
  go_simp
theorem exec_st63 {ev' : Operand → Value} {x y : Operand} {T : TypeId} {w : World} {B : Nat} {u : Value} {n c : Nat} {ad : Option Addr} (hx : ev' x = .pointer (some ⟨B, 0, none⟩)) (hy : ev' y = .slice ad n c) (h : w.cell? ⟨B, 0, none⟩ = some u) (hf : w.frozen? ⟨B, 0, none⟩ = false) : (execOp ev' { dst := none, op := .store 63 x y, type := T, pos := "", after := #[], guard := none }).run Tryz.prog w = .ok .skip (w.setCell ⟨B, 0, none⟩ (.slice ad n c)) := by
  unfold execOp
  simp only [hx, hy]
  go_simp
/-- A reading operation and a call come up together in a region that draws its order. -/
theorem load_call_op {P : Program} {md : Region.Mode} {ops : Array Oper} {Q : Exit → Act → World → Prop} {S : World → Prop} {i j : Nat} {oi oj : Oper} {di dj : Tmp} {OPi OPj : Op} {Ti Tj : TypeId} {f : FuncId} {args : Array Value} {u : Value} {fuel : Nat} {listed : Array Bool} {a : Act} {w : World}
    (hi : ops[i]? = some oi) (hdi : oi.dst = some di) (hoi : oi.op = OPi) (hti : oi.type = Ti) (hj : ops[j]? = some oj) (hdj : oj.dst = some dj) (hoj : oj.op = OPj) (htj : oj.type = Tj)
    (hr : Region.ready md ops listed = [i, j]) (hwi : Region.wanted oi (yielded ops a.tmps) = true) (hwj : Region.wanted oj (yielded ops a.tmps) = true)
    (hyi : (execOp a.eval { dst := none, op := OPi, type := Ti, pos := "", after := #[], guard := none }).run P w = .ok (.value u) w)
    (hyj : (execOp a.eval { dst := none, op := OPj, type := Tj, pos := "", after := #[], guard := none }).run P w = .ok (.enter f args) w)
    (hS : S w)
    (h1 : wpAnyH P md ops Q S fuel (listed.setIfInBounds i true) (a.put (some di) u) w) (h2 : Calls P f args w fun e w1 => ∃ v, e = .returned v ∧ S w1 ∧ wpAnyH P md ops Q S fuel (listed.setIfInBounds j true) (a.put (some dj) v) w1) : wpAnyH P md ops Q S (fuel + 1) listed a w := by
  refine wpAnyH_ready hr (by simp) (AllReadyH.cons hi (fun K hK => ?_) (AllReadyH.cons hj (fun K hK => ?_) AllReadyH.nil))
  · rw [if_pos hwi]
    unfold Oper.wp
    rw [exec_same a.eval oi hoi hti, hyi]
    show K (a.put oi.dst u) w
    rw [hdi]
    exact hK.out _ _ hS (fun _ => h1)
  · rw [if_pos hwj]
    unfold Oper.wp
    rw [exec_same a.eval oj hoj htj, hyj]
    refine Calls.mono h2 ?_
    rintro e w1 ⟨v, rfl, hS, hx⟩
    show K (a.put oj.dst v) w1
    rw [hdj]
    exact hK.out _ _ hS (fun _ => hx)
end Go.Proofs.YtkeldhohilmdcaaGreat
