/-
  SLICEN: parts of rows of names, names laid behind names; two operations that turn the world and come up together.
-/
import Derived.Test.YtkjabnpniingnaaGreatDoorTheoryO
import Derived.Test.YtkjabnpniingnaaGreatDoorForm
namespace Go.Proofs.YtkjabnpniingnaaGreatDoor
open Go.RowKit Go.Shelf Go.Sort
set_option linter.unusedSimpArgs false

/-- Behind this address, if it is one, lie the names l. -/
def RnO (w : World) (ao : Option Addr) (l : List Nm) : Prop := (ao = none → l = []) ∧ ∀ a, ao = some a → ∀ j u, (flatN l)[j]? = some u → w.cell? (a.add j) = some u
theorem RnO.nil (w : World) (ao : Option Addr) : RnO w ao [] := ⟨fun _ => rfl, by simp [flatN]⟩
theorem RnO.ofRn {w : World} {b off : Nat} {l : List Nm} (h : Rn w b off l) : RnO w (some ⟨b, off, none⟩) l := ⟨by simp, fun a ha j u hj => by cases ha; rw [add_lit]; exact h j u hj⟩
theorem RnO.below {w w' : World} {ao : Option Addr} {l : List Nm} (h : RnO w ao l) (hb : Below w.heap.size w w') : RnO w' ao l := ⟨h.1, fun a ha j u hj => by
  have := h.2 a ha j u hj
  exact (hb.cell (World.block_lt_of_cell? _ _ this)).trans this⟩
theorem RnO.take {w : World} {ao : Option Addr} {l : List Nm} (h : RnO w ao l) (n : Nat) : RnO w ao (l.take n) := ⟨fun e => by rw [h.1 e]; simp, fun a ha j u hj => h.2 a ha j u (by
  have : flatN l = flatN (l.take n) ++ flatN (l.drop n) := by rw [← flatN_app, List.take_append_drop]
  rw [this, List.getElem?_append_left (List.getElem?_eq_some_iff.1 hj).1]; exact hj)⟩
theorem RnO.drop {w : World} {b off : Nat} {l : List Nm} (h : RnO w (some ⟨b, off, none⟩) l) (n : Nat) (hn : n ≤ l.length) : RnO w (some ⟨b, off + n * 3, none⟩) (l.drop n) := ⟨by simp, fun a ha j u hj => by
  cases ha
  have e : flatN l = flatN (l.take n) ++ flatN (l.drop n) := by rw [← flatN_app, List.take_append_drop]
  have e2 : (flatN (l.take n)).length = n * 3 := by rw [flatN_len, List.length_take]; omega
  have := h.2 _ rfl (n * 3 + j) u (by rw [e, List.getElem?_append_right (by omega), e2, Nat.add_sub_cancel_left]; exact hj)
  rw [add_lit] at this ⊢
  rw [Nat.add_assoc]; exact this⟩
theorem slice_hi {w : World} {ao : Option Addr} {l : List Nm} {n cap : Nat} (hr : RnO w ao l) (hn : n ≤ l.length) (hc : l.length ≤ cap) (ha : ∀ a, ao = some a → a.spot = none) :
    ∃ A, (∀ w', (Instr.slice 81 (.slice ao l.length cap) none (some (.int .i64 n)) none).run Tryz.prog w' = .ok (.slice A n cap) w') ∧ RnO w A (l.take n) ∧ (A = none → ao = none) := by
  refine ⟨if cap = 0 then ao else ao.map (fun x => x.add (0 * 3)), fun w' => ?_, ?_, ?_⟩
  · have h2 : (0 : Int) ≤ (n : Int) ∧ (n : Int) ≤ (cap : Int) := by omega
    simp [Instr.slice, Instr.sliceBounds, Instr.sliceBound, asIntOf, run_underlying Tryz.underlying81, go_sem, show n ≤ cap by omega, Tryz.sizeOf25]
  · have : (if cap = 0 then ao else ao.map (fun x => x.add (0 * 3))) = ao := by
      split
      · rfl
      · cases ao with
        | none => rfl
        | some a => obtain ⟨b, o, s⟩ := a; have := ha _ rfl; simp only at this; subst this; rw [Option.map_some, add_lit]; simp
    rw [this]; exact hr.take n
  · split
    · exact id
    · cases ao <;> simp
theorem slice_lo {w : World} {ao : Option Addr} {l : List Nm} {n cap : Nat} (hr : RnO w ao l) (hn : n ≤ l.length) (hc : l.length ≤ cap) (ha : ∀ a, ao = some a → a.spot = none) :
    ∃ A, (∀ w', (Instr.slice 81 (.slice ao l.length cap) (some (.int .i64 n)) none none).run Tryz.prog w' = .ok (.slice A (l.length - n) (cap - n)) w') ∧ RnO w A (l.drop n) ∧ (A = none → ao = none) := by
  refine ⟨if cap = n then ao else ao.map (fun x => x.add (n * 3)), fun w' => ?_, ?_, ?_⟩
  · have h2 : (0 : Int) ≤ (n : Int) ∧ (n : Int) ≤ (l.length : Int) := by omega
    simp [Instr.slice, Instr.sliceBounds, Instr.sliceBound, asIntOf, run_underlying Tryz.underlying81, go_sem, hn, hc, show n ≤ cap by omega, Tryz.sizeOf25]
  · by_cases h : cap = n
    · rw [if_pos h, List.drop_eq_nil_of_le (by omega)]; exact RnO.nil _ _
    · rw [if_neg h]
      cases ao with
      | none => rw [hr.1 rfl]; simp; exact RnO.nil _ _
      | some a => obtain ⟨b, o, s⟩ := a; have := ha _ rfl; simp only at this; subst this; rw [Option.map_some, add_lit]; exact hr.drop n hn
  · split
    · exact id
    · cases ao <;> simp
theorem exec_slhi {ev : Operand → Value} {x z : Operand} {T : TypeId} {w : World} {u b v : Value} (hx : ev x = u) (hz : ev z = b) (h : (Instr.slice 81 u none (some b) none).run Tryz.prog w = .ok v w) :
    (execOp ev { dst := none, op := .slice 81 x none (some z) none, type := T, pos := "", after := #[], guard := none }).run Tryz.prog w = .ok (.value v) w := by
  have h2 : (Instr.sliceAt 81 u none (some b) none).run Tryz.prog w = .ok v w := by simp [Instr.sliceAt, run_underlying Tryz.underlying81, h]
  simp [execOp, hx, hz, h2, Result.andThen]
theorem exec_sllo {ev : Operand → Value} {x z : Operand} {T : TypeId} {w : World} {u b v : Value} (hx : ev x = u) (hz : ev z = b) (h : (Instr.slice 81 u (some b) none none).run Tryz.prog w = .ok v w) :
    (execOp ev { dst := none, op := .slice 81 x (some z) none none, type := T, pos := "", after := #[], guard := none }).run Tryz.prog w = .ok (.value v) w := by
  have h2 : (Instr.sliceAt 81 u (some b) none none).run Tryz.prog w = .ok v w := by simp [Instr.sliceAt, run_underlying Tryz.underlying81, h]
  simp [execOp, hx, hz, h2, Result.andThen]
theorem exec_ldN {ev : Operand → Value} {x : Operand} {T : TypeId} {w : World} {b o : Nat} {u v z : Value} (hx : ev x = .pointer (some ⟨b, o, none⟩)) (c0 : w.cell? ⟨b, o, none⟩ = some u) (c1 : w.cell? ⟨b, o + 1, none⟩ = some v) (c2 : w.cell? ⟨b, o + 2, none⟩ = some z) :
    (execOp ev { dst := none, op := .load 25 x, type := T, pos := "", after := #[], guard := none }).run Tryz.prog w = .ok (.value (.agg #[u, v, z])) w := by
  unfold execOp
  simp only [hx]
  go_simp
theorem exec_ixN {ev : Operand → Value} {x y : Operand} {T : TypeId} {w : World} {b o n c k : Nat} (hx : ev x = .slice (some ⟨b, o, none⟩) n c) (hy : ev y = .int .i64 k) (hk : (k : Int) < (n : Int)) :
    (execOp ev { dst := none, op := .indexAddr 81 x y, type := T, pos := "", after := #[], guard := none }).run Tryz.prog w = .ok (.value (.pointer (some ⟨b, o + k * 3, none⟩))) w := by
  unfold execOp
  simp only [hx, hy]
  go_simp
theorem exec_bsN {ev : Operand → Value} {x : Operand} {T : TypeId} {w : World} {u v : Int} {l : ByteArray} (hx : ev x = .agg #[.int .i64 u, .string l, .int .i64 v]) :
    (execOp ev { dst := none, op := .buildSlice 81 1 #[(0, x)], type := T, pos := "", after := #[], guard := none }).run Tryz.prog w = .ok (.value (.slice (some ⟨w.heap.size, 0, none⟩) 1 1)) (w.alloc (.cells #[.int .i64 u, .string l, .int .i64 v] 25)) := by
  unfold execOp
  simp only [hx]
  go_simp
/-- Names that are read, laid on names that are owned. -/
theorem app_names {w : World} {B : Nat} {v : Value} {p l : List Nm} {ao : Option Addr} {c : Nat} (hown : On w B v p) (hc : ao = none → c = 0) (hrd : RnO w ao l) (hbytes : p.length + l.length ≤ 1000000) (hB : B ≤ w.heap.size) :
    ∃ a' c' w', (Builtin.append_ #[81, 81] 81 #[v, .slice ao l.length c]).run Tryz.prog w = .ok (.slice a' (p ++ l).length c') w' ∧ On w' B (.slice a' (p ++ l).length c') (p ++ l) ∧ Below B w w' := by
  obtain ⟨i0, hi, hz0, hz1, hz2⟩ := info_parts Tryz.info25
  cases ao with
  | none =>
    have hl := hrd.1 rfl
    subst hl
    have hc0 := hc rfl
    subst hc0
    obtain ⟨a', c', hv, _, _⟩ := row_form hown
    subst hv
    rw [List.append_nil]
    exact ⟨a', c', w, run_append_owned_none (P := Tryz.prog) (w := w) B 81 81 25 i0 3 Tryz.underlying81 hi _ _ _ hown, hown, Below.refl _ _⟩
  | some ad =>
    obtain ⟨v', w', hr, h2, h3, _⟩ := run_append_own (P := Tryz.prog) w B 81 81 25 i0 (.agg #[.int .i64 0, .string ⟨#[]⟩, .int .i64 0]) 3 32 Tryz.underlying81 hi hz0 hz1 hz2 rfl (by decide) v p.length (flatN p) hown ad l.length c (flatN l) (flatN_len l) (fun j u hj => hrd.2 ad rfl j u hj) (flatN_one l) (by unfold maxLen; omega) (by omega) hB
    have hO : On w' B v' (p ++ l) := by unfold On; rw [flatN_app, List.length_append]; exact h2
    obtain ⟨a', c', hv, _, _⟩ := row_form hO
    subst hv
    exact ⟨a', c', w', hr, hO, (Below.refl B w).grown h3 hB (fun k hk => (World.ownsRow.lt hown k hk).1)⟩
/-- Two operations that turn the world come up together in a region that draws its order. -/
theorem turns_op {P : Program} {md : Region.Mode} {ops : Array Oper} {Q : Exit → Act → World → Prop} {S : World → Prop} {i j : Nat} {oi oj : Oper} {di dj : Tmp} {OPi OPj : Op} {Ti Tj : TypeId} {v u : Value} {fuel : Nat} {listed : Array Bool} {a : Act} {w w1 w2 : World}
    (hi : ops[i]? = some oi) (hdi : oi.dst = some di) (hoi : oi.op = OPi) (hti : oi.type = Ti) (hj : ops[j]? = some oj) (hdj : oj.dst = some dj) (hoj : oj.op = OPj) (htj : oj.type = Tj)
    (hr : Region.ready md ops listed = [i, j]) (hwi : Region.wanted oi (yielded ops a.tmps) = true) (hwj : Region.wanted oj (yielded ops a.tmps) = true)
    (hyi : (execOp a.eval { dst := none, op := OPi, type := Ti, pos := "", after := #[], guard := none }).run P w = .ok (.value v) w1)
    (hyj : (execOp a.eval { dst := none, op := OPj, type := Tj, pos := "", after := #[], guard := none }).run P w = .ok (.value u) w2)
    (hS : S w1) (hS' : S w2)
    (h1 : wpAnyH P md ops Q S fuel (listed.setIfInBounds i true) (a.put (some di) v) w1) (h2 : wpAnyH P md ops Q S fuel (listed.setIfInBounds j true) (a.put (some dj) u) w2) : wpAnyH P md ops Q S (fuel + 1) listed a w := by
  refine wpAnyH_ready hr (by simp) (AllReadyH.cons hi (fun K hK => ?_) (AllReadyH.cons hj (fun K hK => ?_) AllReadyH.nil))
  · rw [if_pos hwi]
    unfold Oper.wp
    rw [exec_same a.eval oi hoi hti, hyi]
    show K (a.put oi.dst v) w1
    rw [hdi]
    exact hK.out _ _ hS (fun _ => h1)
  · rw [if_pos hwj]
    unfold Oper.wp
    rw [exec_same a.eval oj hoj htj, hyj]
    show K (a.put oj.dst u) w2
    rw [hdj]
    exact hK.out _ _ hS' (fun _ => h2)
end Go.Proofs.YtkjabnpniingnaaGreatDoor
