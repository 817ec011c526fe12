/-
  ELEMENTS IN ROWS: read ('Re'), owned ('Oe').
  Parts of rows of elements, elements laid behind elements.
-/
import Derived.Test.YtkeldhohilmdcaaGreatCmp6
import Derived.Shelf.SlSortCmp.NoneTotal
import Derived.Test.YtkeldhohilmdcaaGreatKeep
namespace Go.Proofs.YtkeldhohilmdcaaGreat
open Go.RowKit Go.Shelf Go.Sort
set_option linter.unusedSimpArgs false

abbrev El := St × ByteArray
def encE (x : El) : List Value := [.int .i64 x.1.1, .int .i64 x.1.2.1, .string x.1.2.2.1, .int .i64 x.1.2.2.2.1, .int .i64 x.1.2.2.2.2, .string x.2]
abbrev svT (s : St) : Value := .agg #[.int .i64 s.1, .int .i64 s.2.1, .string s.2.2.1, .int .i64 s.2.2.2.1, .int .i64 s.2.2.2.2]
abbrev ev (x : El) : Value := .agg #[.int .i64 x.1.1, .int .i64 x.1.2.1, .string x.1.2.2.1, .int .i64 x.1.2.2.2.1, .int .i64 x.1.2.2.2.2, .string x.2]
def flatE (l : List El) : List Value := l.flatMap encE
theorem flatE_cons (x : El) (l : List El) : flatE (x :: l) = encE x ++ flatE l := rfl
theorem flatE_app (l m : List El) : flatE (l ++ m) = flatE l ++ flatE m := by simp [flatE]
theorem flatE_len : ∀ l : List El, (flatE l).length = l.length * 6
  | [] => rfl
  | x :: l => by rw [flatE_cons, List.length_append, flatE_len l, List.length_cons]; simp [encE]; omega
theorem flatE_get : ∀ (l : List El) (k j : Nat) (x : El), l[k]? = some x → j < 6 → (flatE l)[k * 6 + j]? = (encE x)[j]?
  | [], k, j, x, h, _ => by simp at h
  | y :: l, 0, j, x, h, hj => by
    simp at h; subst h
    rw [flatE_cons, List.getElem?_append_left (by simp [encE]; omega)]
    simp
  | y :: l, k + 1, j, x, h, hj => by
    rw [flatE_cons, List.getElem?_append_right (by simp [encE]; omega)]
    rw [show (k + 1) * 6 + j - (encE y).length = k * 6 + j by simp [encE]; omega]
    exact flatE_get l k j x (by simpa using h) hj
theorem flatE_one (l : List El) (v : Value) (h : v ∈ flatE l) : v.oneCell' = true := by
  simp only [flatE, List.mem_flatMap] at h
  obtain ⟨x, _, hx⟩ := h
  simp [encE] at hx
  rcases hx with rfl | rfl | rfl | rfl | rfl | rfl <;> rfl
/-- Behind this address lie the elements l. -/
def Re0 (w : World) (b off : Nat) (l : List El) : Prop := ∀ j v, (flatE l)[j]? = some v → w.cell? ⟨b, off + j, none⟩ = some v
theorem Re0.at {w : World} {b off : Nat} {l : List El} (h : Re0 w b off l) {k : Nat} {x : El} (hx : l[k]? = some x) : ∀ i v, (encE x)[i]? = some v → w.cell? ⟨b, off + k * 6 + i, none⟩ = some v := fun i v hi => by
  have h6 : i < 6 := by have := (List.getElem?_eq_some_iff.1 hi).1; simpa [encE] using this
  have := h (k * 6 + i) v ((flatE_get l k i x hx h6).trans hi)
  rwa [← Nat.add_assoc] at this
theorem Re0.below {w w' : World} {b off : Nat} {l : List El} {B : Nat} (h : Re0 w b off l) (hb : Below B w w') (hB : b < B) : Re0 w' b off l := fun j v hj => (hb.cell hB).trans (h j v hj)
theorem Re0.take {w : World} {b off : Nat} {l : List El} (h : Re0 w b off l) (n : Nat) : Re0 w b off (l.take n) := fun j v hj => h j v (by
  have : flatE l = flatE (l.take n) ++ flatE (l.drop n) := by rw [← flatE_app, List.take_append_drop]
  rw [this, List.getElem?_append_left (List.getElem?_eq_some_iff.1 hj).1]; exact hj)

/-- The slice value v owns the elements L, in a block from B on. -/
def Oe (w : World) (B : Nat) (v : Value) (L : List El) : Prop := w.ownsRow B 53 6 v L.length (flatE L)
theorem Oe.nil (w : World) (B : Nat) : Oe w B (.slice none 0 0) [] := World.ownsRow_nil _ _ _ _
theorem Oe.re0 {w : World} {B g n cap : Nat} {L : List El} (h : Oe w B (.slice (some ⟨g, 0, none⟩) n cap) L) : Re0 w g 0 L := fun j v hj => by
  have := World.ownsRow.cells h (g := g) rfl j v hj
  rw [add_lit] at this
  exact this
theorem Oe.only {w w' : World} {B : Nat} {v : Value} {L : List El} {D : Nat → Prop} (h : Oe w B v L) (ho : Only D w w') (hv : ∀ k, v.ownBlock = some k → ¬ D k) : Oe w' B v L := ho.row h hv
theorem Oe.below {w w' : World} {B : Nat} {v : Value} {L : List El} (h : Oe w B v L) (hb : Below w.heap.size w w') : Oe w' B v L := h.only (Only.ofBelow hb) (fun _ _ d => d.elim)
theorem Oe.shape {w : World} {B : Nat} {v : Value} {L : List El} (h : Oe w B v L) : (v = .slice none 0 0 ∧ L = []) ∨ ∃ g cap, v = .slice (some ⟨g, 0, none⟩) L.length cap ∧ B ≤ g ∧ g < w.heap.size ∧ L.length ≤ cap := by
  have hlt := World.ownsRow.lt h
  rcases h.2 with ⟨rfl, hn⟩ | ⟨g, cap, cur, rfl, hb, hg, hnc, rest⟩
  · exact .inl ⟨rfl, List.eq_nil_of_length_eq_zero hn⟩
  · exact .inr ⟨g, cap, rfl, hb, (hlt g rfl).2, hnc⟩

end Go.Proofs.YtkeldhohilmdcaaGreat
namespace Go.Proofs.YtkeldhohilmdcaaGreat
open Go.RowKit Go.Shelf Go.Sort
set_option linter.unusedSimpArgs false
attribute [local go_sem] Oper.semAt_some

abbrev zeroE : Value := .agg #[.int .i64 0, .int .i64 0, .string ⟨#[]⟩, .int .i64 0, .int .i64 0, .string ⟨#[]⟩]
theorem info77 : (Tryz.prog.info? 53).map (fun i => (i.zero, i.size, i.bytes)) = some (some zeroE, 6, 64) := by kernel_rfl
theorem info_of {t : TypeId} {z : Option Value} {n b : Nat} (h : (Tryz.prog.info? t).map (fun i => (i.zero, i.size, i.bytes)) = some (z, n, b)) : ∃ i, Tryz.prog.info? t = some i ∧ i.zero = z ∧ i.size = n ∧ i.bytes = b := by
  cases hi : Tryz.prog.info? t with
  | none => rw [hi] at h; cases h
  | some i => rw [hi] at h; simp only [Option.map_some, Option.some.injEq, Prod.mk.injEq] at h; exact ⟨i, rfl, h.1, h.2.1, h.2.2⟩
/-- Behind this address, if it is one, lie the elements l. -/
def Re (w : World) (ao : Option Addr) (l : List El) : Prop := (ao = none → l = []) ∧ ∀ a, ao = some a → ∀ j u, (flatE l)[j]? = some u → w.cell? (a.add j) = some u
theorem Re.nil (w : World) (ao : Option Addr) : Re w ao [] := ⟨fun _ => rfl, by simp [flatE]⟩
theorem Re.ofRe0 {w : World} {b off : Nat} {l : List El} (h : Re0 w b off l) : Re w (some ⟨b, off, none⟩) l := ⟨by simp, fun a ha j u hj => by cases ha; rw [add_lit]; exact h j u hj⟩
theorem Re.below {w w' : World} {ao : Option Addr} {l : List El} (h : Re w ao l) (hb : Below w.heap.size w w') : Re w' ao l := ⟨h.1, fun a ha j u hj => by
  have := h.2 a ha j u hj
  exact (hb.cell (World.block_lt_of_cell? _ _ this)).trans this⟩
theorem Re.take {w : World} {ao : Option Addr} {l : List El} (h : Re w ao l) (n : Nat) : Re w ao (l.take n) := ⟨fun e => by rw [h.1 e]; simp, fun a ha j u hj => h.2 a ha j u (by
  have : flatE l = flatE (l.take n) ++ flatE (l.drop n) := by rw [← flatE_app, List.take_append_drop]
  rw [this, List.getElem?_append_left (List.getElem?_eq_some_iff.1 hj).1]; exact hj)⟩
theorem Re.drop {w : World} {b off : Nat} {l : List El} (h : Re w (some ⟨b, off, none⟩) l) (n : Nat) (hn : n ≤ l.length) : Re w (some ⟨b, off + n * 6, none⟩) (l.drop n) := ⟨by simp, fun a ha j u hj => by
  cases ha
  have e : flatE l = flatE (l.take n) ++ flatE (l.drop n) := by rw [← flatE_app, List.take_append_drop]
  have e2 : (flatE (l.take n)).length = n * 6 := by rw [flatE_len, List.length_take]; omega
  have := h.2 _ rfl (n * 6 + j) u (by rw [e, List.getElem?_append_right (by omega), e2, Nat.add_sub_cancel_left]; exact hj)
  rw [add_lit] at this ⊢
  rw [Nat.add_assoc]; exact this⟩
theorem slice_hi {w : World} {ao : Option Addr} {l : List El} {n cap : Nat} (hr : Re w ao l) (hn : n ≤ l.length) (hc : l.length ≤ cap) (ha : ∀ a, ao = some a → a.spot = none) :
    ∃ A, (∀ w', (Instr.slice 22 (.slice ao l.length cap) none (some (.int .i64 n)) none).run Tryz.prog w' = .ok (.slice A n cap) w') ∧ Re w A (l.take n) ∧ (A = none → ao = none) := by
  refine ⟨if cap = 0 then ao else ao.map (fun x => x.add (0 * 6)), fun w' => ?_, ?_, ?_⟩
  · have h2 : (0 : Int) ≤ (n : Int) ∧ (n : Int) ≤ (cap : Int) := by omega
    simp [Instr.slice, Instr.sliceBounds, Instr.sliceBound, asIntOf, run_underlying Tryz.underlying22, go_sem, show n ≤ cap by omega, Tryz.sizeOf53]
  · have : (if cap = 0 then ao else ao.map (fun x => x.add (0 * 6))) = ao := by
      split
      · rfl
      · cases ao with
        | none => rfl
        | some a => obtain ⟨b, o, s⟩ := a; have := ha _ rfl; simp only at this; subst this; rw [Option.map_some, add_lit]; simp
    rw [this]; exact hr.take n
  · split
    · exact id
    · cases ao <;> simp
theorem slice_lo {w : World} {ao : Option Addr} {l : List El} {n cap : Nat} (hr : Re w ao l) (hn : n ≤ l.length) (hc : l.length ≤ cap) (ha : ∀ a, ao = some a → a.spot = none) :
    ∃ A, (∀ w', (Instr.slice 22 (.slice ao l.length cap) (some (.int .i64 n)) none none).run Tryz.prog w' = .ok (.slice A (l.length - n) (cap - n)) w') ∧ Re w A (l.drop n) ∧ (A = none → ao = none) := by
  refine ⟨if cap = n then ao else ao.map (fun x => x.add (n * 6)), fun w' => ?_, ?_, ?_⟩
  · have h2 : (0 : Int) ≤ (n : Int) ∧ (n : Int) ≤ (l.length : Int) := by omega
    simp [Instr.slice, Instr.sliceBounds, Instr.sliceBound, asIntOf, run_underlying Tryz.underlying22, go_sem, hn, hc, show n ≤ cap by omega, Tryz.sizeOf53]
  · by_cases h : cap = n
    · rw [if_pos h, List.drop_eq_nil_of_le (by omega)]; exact Re.nil _ _
    · rw [if_neg h]
      cases ao with
      | none => rw [hr.1 rfl]; simp; exact Re.nil _ _
      | some a => obtain ⟨b, o, s⟩ := a; have := ha _ rfl; simp only at this; subst this; rw [Option.map_some, add_lit]; exact hr.drop n hn
  · split
    · exact id
    · cases ao <;> simp
theorem exec_slhi {ev : Operand → Value} {x z : Operand} {T : TypeId} {w : World} {u b v : Value} (hx : ev x = u) (hz : ev z = b) (h : (Instr.slice 22 u none (some b) none).run Tryz.prog w = .ok v w) :
    (execOp ev { dst := none, op := .slice 22 x none (some z) none, type := T, pos := "", after := #[], guard := none }).run Tryz.prog w = .ok (.value v) w := by
  have h2 : (Instr.sliceAt 22 u none (some b) none).run Tryz.prog w = .ok v w := by simp [Instr.sliceAt, run_underlying Tryz.underlying22, h]
  simp [execOp, hx, hz, h2, Result.andThen]
theorem exec_sllo {ev : Operand → Value} {x z : Operand} {T : TypeId} {w : World} {u b v : Value} (hx : ev x = u) (hz : ev z = b) (h : (Instr.slice 22 u (some b) none none).run Tryz.prog w = .ok v w) :
    (execOp ev { dst := none, op := .slice 22 x (some z) none none, type := T, pos := "", after := #[], guard := none }).run Tryz.prog w = .ok (.value v) w := by
  have h2 : (Instr.sliceAt 22 u (some b) none none).run Tryz.prog w = .ok v w := by simp [Instr.sliceAt, run_underlying Tryz.underlying22, h]
  simp [execOp, hx, hz, h2, Result.andThen]
theorem exec_ixE {ev : Operand → Value} {x y : Operand} {T : TypeId} {w : World} {b o n c k : Nat} (hx : ev x = .slice (some ⟨b, o, none⟩) n c) (hy : ev y = .int .i64 k) (hk : (k : Int) < (n : Int)) :
    (execOp ev { dst := none, op := .indexAddr 22 x y, type := T, pos := "", after := #[], guard := none }).run Tryz.prog w = .ok (.value (.pointer (some ⟨b, o + k * 6, none⟩))) w := by
  unfold execOp
  simp only [hx, hy]
  go_simp
set_option maxRecDepth 10000 in
/-- Elements that are read, laid on elements that are owned. -/
theorem app_elems {w : World} {B : Nat} {v : Value} {p l : List El} {ao : Option Addr} {c : Nat} (hown : Oe w B v p) (hc : ao = none → c = 0) (hrd : Re w ao l) (hbytes : p.length + l.length ≤ 1000000) (hB : B ≤ w.heap.size) :
    ∃ a' c' w', (Builtin.append_ #[22, 22] 22 #[v, .slice ao l.length c]).run Tryz.prog w = .ok (.slice a' (p ++ l).length c') w' ∧ Oe w' B (.slice a' (p ++ l).length c') (p ++ l) ∧ Below B w w' := by
  obtain ⟨i0, hi, hz0, hz1, hz2⟩ := info_of info77
  cases ao with
  | none =>
    have hl := hrd.1 rfl
    subst hl
    have hc0 := hc rfl
    subst hc0
    obtain ⟨a', c', hv, _, _⟩ := row_form hown
    subst hv
    rw [List.append_nil]
    exact ⟨a', c', w, run_append_owned_none (P := Tryz.prog) (w := w) B 22 22 53 i0 6 Tryz.underlying22 hi _ _ _ hown, hown, Below.refl _ _⟩
  | some ad =>
    obtain ⟨v', w', hr, h2, h3, _⟩ := run_append_own (P := Tryz.prog) w B 22 22 53 i0 zeroE 6 64 Tryz.underlying22 hi hz0 hz1 hz2 rfl (by decide) v p.length (flatE p) hown ad l.length c (flatE l) (flatE_len l) (fun j u hj => hrd.2 ad rfl j u hj) (flatE_one l) (by unfold maxLen; omega) (by omega) hB
    have hO : Oe w' B v' (p ++ l) := by unfold Oe; rw [flatE_app, List.length_append]; exact h2
    obtain ⟨a', c', hv, _, _⟩ := row_form hO
    subst hv
    exact ⟨a', c', w', hr, hO, (Below.refl B w).grown h3 hB (fun k hk => (World.ownsRow.lt hown k hk).1)⟩
theorem Re.at {w : World} {ao : Option Addr} {l : List El} (h : Re w ao l) {k : Nat} {x : El} (hx : l[k]? = some x) : ∃ b off, ao = some ⟨b, off, none⟩ ∧ ∀ i v, (encE x)[i]? = some v → w.cell? ⟨b, off + k * 6 + i, none⟩ = some v := by
  cases ao with
  | none => have := h.1 rfl; subst this; simp at hx
  | some a =>
    obtain ⟨b, off, sp⟩ := a
    have hl : 0 < l.length := by have := (List.getElem?_eq_some_iff.1 hx).1; omega
    have h0 := h.2 _ rfl 0 (.int .i64 l[0].1.1) (by have := flatE_get l 0 0 l[0] (List.getElem?_eq_getElem hl) (by omega); rw [Nat.zero_mul, Nat.add_zero] at this; rw [this]; rfl)
    simp only [Addr.add, if_true] at h0
    have hs : sp = none := World.cell?_spot h0
    subst hs
    refine ⟨b, off, rfl, fun i v hi => ?_⟩
    have h6 : i < 6 := by have := (List.getElem?_eq_some_iff.1 hi).1; simpa [encE] using this
    have := h.2 _ rfl (k * 6 + i) v ((flatE_get l k i x hx h6).trans hi)
    rw [add_lit, ← Nat.add_assoc] at this
    exact this
theorem Re.cells {w : World} {ao : Option Addr} {l : List El} (h : Re w ao l) {k : Nat} {x : El} (hx : l[k]? = some x) : ∃ b off, ao = some ⟨b, off, none⟩ ∧ w.cell? ⟨b, off + k * 6, none⟩ = some (.int .i64 x.1.1) ∧ w.cell? ⟨b, off + k * 6 + 1, none⟩ = some (.int .i64 x.1.2.1) ∧ w.cell? ⟨b, off + k * 6 + 2, none⟩ = some (.string x.1.2.2.1) ∧ w.cell? ⟨b, off + k * 6 + 3, none⟩ = some (.int .i64 x.1.2.2.2.1) ∧ w.cell? ⟨b, off + k * 6 + 4, none⟩ = some (.int .i64 x.1.2.2.2.2) ∧ w.cell? ⟨b, off + k * 6 + 5, none⟩ = some (.string x.2) := by
  obtain ⟨b, off, e, hc⟩ := h.at hx
  exact ⟨b, off, e, hc 0 _ rfl, hc 1 _ rfl, hc 2 _ rfl, hc 3 _ rfl, hc 4 _ rfl, hc 5 _ rfl⟩
theorem Oe.re {w : World} {B : Nat} {ao : Option Addr} {n c : Nat} {L : List El} (h : Oe w B (.slice ao n c) L) : Re w ao L := by
  rcases h.shape with ⟨e, rfl⟩ | ⟨g, cap, e, _⟩
  · exact Re.nil _ _
  · cases e; exact Re.ofRe0 h.re0
theorem Oe.form {w : World} {B : Nat} {v : Value} {L : List El} (h : Oe w B v L) : ∃ ao c, v = .slice ao L.length c ∧ Re w ao L ∧ (ao = none → c = 0) ∧ L.length ≤ c ∧ (∀ a, ao = some a → B ≤ a.block ∧ a.block < w.heap.size ∧ a.spot = none) := by
  rcases h.shape with ⟨e, rfl⟩ | ⟨g, cap, e, h1, h2, h3⟩
  · exact ⟨none, 0, e, Re.nil _ _, fun _ => rfl, by simp, by simp⟩
  · subst e; exact ⟨_, _, rfl, h.re, by simp, h3, fun a ha => by cases ha; exact ⟨h1, h2, rfl⟩⟩
theorem Oe.lift {w : World} {B B' : Nat} {v : Value} {L : List El} (h : Oe w B v L) (hB : B' ≤ B) : Oe w B' v L := by
  refine ⟨h.1, ?_⟩
  rcases h.2 with h2 | ⟨g, cap, cur, h1, h2, h3⟩
  · exact .inl h2
  · exact .inr ⟨g, cap, cur, h1, by omega, h3⟩
theorem Oe.alloc {w : World} {B : Nat} {v : Value} {L : List El} (h : Oe w B v L) (o : Obj) : Oe (w.alloc o) B v L := World.ownsRow.alloc h o
end Go.Proofs.YtkeldhohilmdcaaGreat
