/-
  OPS: places in rows.
  OPS: places compared (85), a row of places that is turned.
  DERIVED: THE SHELF's CONTRACTS AT THIS DUMP, IN PLAIN WORDS (tools/lay-plain.mjs out of 'TryzPlS.lean', which tools/lay-shelf.mjs wrote): THE SAME DECLARATIONS UNDER THE SAME NAMES: 'import', 'namespace', 'open', 'def', 'theorem' AND NOTHING ELSE: no command of the shelf's: FOR A HAND-IN. Each laying: the table of numbers ('.._ren') and one theorem, a field a fact of the dump's own or the kernel's comparison; each contract: ONE APPLICATION.
  OPS: places compared, in the form that sorting wants.
-/
import Derived.Test.YtpepgoelnagoaaaGreatDoorMg13
import Derived.Test.YtpepgoelnagoaaaGreatDoorMg5
import Derived.Test.YtpepgoelnagoaaaGreatDoorProg
import Derived.Shelf.SlSortCmp.NoneTotal
import Derived.Ground.SlsfProg
namespace Go.Proofs.YtpepgoelnagoaaaGreatDoor
open Go.RowKit Go.Shelf
set_option linter.unusedSimpArgs false
set_option linter.unusedVariables false
attribute [local go_sem] Oper.semAt_some

abbrev Pl := List ByteArray × Int × ByteArray
abbrev Px := Pl × Option Addr × Nat
def encP (x : Px) : List Value := [.slice x.2.1 x.1.1.length x.2.2, .int .i64 x.1.2.1, .string x.1.2.2]
def flatP (l : List Px) : List Value := l.flatMap encP
theorem flatP_cons (x : Px) (l : List Px) : flatP (x :: l) = encP x ++ flatP l := rfl
theorem flatP_app (l m : List Px) : flatP (l ++ m) = flatP l ++ flatP m := by simp [flatP]
theorem flatP_len : ∀ l : List Px, (flatP l).length = l.length * 3
  | [] => rfl
  | x :: l => by rw [flatP_cons, List.length_append, flatP_len l, List.length_cons]; simp [encP]; omega
theorem flatP_get : ∀ (l : List Px) (k j : Nat) (x : Px), l[k]? = some x → j < 3 → (flatP l)[k * 3 + j]? = (encP x)[j]?
  | [], k, j, x, h, _ => by simp at h
  | y :: l, 0, j, x, h, hj => by
    simp at h; subst h
    rw [flatP_cons, List.getElem?_append_left (by simp [encP]; omega)]
    simp
  | y :: l, k + 1, j, x, h, hj => by
    rw [flatP_cons, List.getElem?_append_right (by simp [encP]; omega)]
    rw [show (k + 1) * 3 + j - (encP y).length = k * 3 + j by simp [encP]; omega]
    exact flatP_get l k j x (by simpa using h) hj
theorem flatP_one (l : List Px) (v : Value) (h : v ∈ flatP l) : v.oneCell' = true := by
  simp only [flatP, List.mem_flatMap] at h
  obtain ⟨x, _, hx⟩ := h
  simp [encP] at hx
  rcases hx with rfl | rfl | rfl <;> rfl
/-- Behind this address lie the names l. -/
def Rpl (w : World) (b off : Nat) (l : List Px) : Prop := ∀ j v, (flatP l)[j]? = some v → w.cell? ⟨b, off + j, none⟩ = some v
theorem Rpl.at {w : World} {b off : Nat} {l : List Px} (h : Rpl w b off l) {k : Nat} {x : Px} (hx : l[k]? = some x) : w.cell? ⟨b, off + k * 3, none⟩ = some (.slice x.2.1 x.1.1.length x.2.2) ∧ w.cell? ⟨b, off + k * 3 + 1, none⟩ = some (.int .i64 x.1.2.1) ∧ w.cell? ⟨b, off + k * 3 + 2, none⟩ = some (.string x.1.2.2) :=
  ⟨h (k * 3) _ (flatP_get l k 0 x hx (by omega)), h (k * 3 + 1) _ (flatP_get l k 1 x hx (by omega)), h (k * 3 + 2) _ (flatP_get l k 2 x hx (by omega))⟩
theorem Rpl.below {w w' : World} {b off : Nat} {l : List Px} {B : Nat} (h : Rpl w b off l) (hb : Below B w w') (hB : b < B) : Rpl w' b off l := fun j v hj => (hb.cell hB).trans (h j v hj)
theorem Rpl.take {w : World} {b off : Nat} {l : List Px} (h : Rpl w b off l) (n : Nat) : Rpl w b off (l.take n) := fun j v hj => h j v (by
  have : flatP l = flatP (l.take n) ++ flatP (l.drop n) := by rw [← flatP_app, List.take_append_drop]
  rw [this, List.getElem?_append_left (List.getElem?_eq_some_iff.1 hj).1]; exact hj)

/-- The slice value v owns the names L, in a block from B on. -/
def Opl (w : World) (B : Nat) (v : Value) (L : List Px) : Prop := w.ownsRow B 75 3 v L.length (flatP L)
theorem Opl.nil (w : World) (B : Nat) : Opl w B (.slice none 0 0) [] := World.ownsRow_nil _ _ _ _
theorem Opl.rn {w : World} {B g n cap : Nat} {L : List Px} (h : Opl w B (.slice (some ⟨g, 0, none⟩) n cap) L) : Rpl w g 0 L := fun j v hj => by
  have := World.ownsRow.cells h (g := g) rfl j v hj
  rw [add_lit] at this
  exact this
theorem Opl.only {w w' : World} {B : Nat} {v : Value} {L : List Px} {D : Nat → Prop} (h : Opl w B v L) (ho : Only D w w') (hv : ∀ k, v.ownBlock = some k → ¬ D k) : Opl w' B v L := ho.row h hv
theorem Opl.below {w w' : World} {B : Nat} {v : Value} {L : List Px} (h : Opl w B v L) (hb : Below w.heap.size w w') : Opl w' B v L := h.only (Only.ofBelow hb) (fun _ _ d => d.elim)
theorem Opl.shape {w : World} {B : Nat} {v : Value} {L : List Px} (h : Opl w B v L) : (v = .slice none 0 0 ∧ L = []) ∨ ∃ g cap, v = .slice (some ⟨g, 0, none⟩) L.length cap ∧ B ≤ g ∧ g < w.heap.size ∧ L.length ≤ cap := by
  have hlt := World.ownsRow.lt h
  rcases h.2 with ⟨rfl, hn⟩ | ⟨g, cap, cur, rfl, hb, hg, hnc, rest⟩
  · exact .inl ⟨rfl, List.eq_nil_of_length_eq_zero hn⟩
  · exact .inr ⟨g, cap, rfl, hb, (hlt g rfl).2, hnc⟩


/-- A slice of places that is owned, with their paths. -/
structure Pq (w : World) (B : Nat) (v : Value) (L : List Px) : Prop where
  row : Opl w B v L
  path : ∀ x ∈ L, Os w B (.slice x.2.1 x.1.1.length x.2.2) x.1.1
  plen : ∀ x ∈ L, x.1.1.length ≤ 1000000
theorem Pq.nil (w : World) (B : Nat) : Pq w B (.slice none 0 0) [] := ⟨Opl.nil _ _, fun x h => (by cases h), fun x h => (by cases h)⟩
theorem Pq.only {w w' : World} {B : Nat} {v : Value} {L : List Px} {D : Nat → Prop} (h : Pq w B v L) (ho : Only D w w') (hD : ∀ k, B ≤ k → ¬ D k) : Pq w' B v L :=
  ⟨h.row.only ho (fun k hk => hD k (World.ownsRow.lt h.row k hk).1), fun x hx => (h.path x hx).only ho (fun k hk => hD k (World.ownsRow.lt (h.path x hx) k hk).1), h.plen⟩
theorem Pq.below {w w' : World} {B : Nat} {v : Value} {L : List Px} (h : Pq w B v L) (hb : Below w.heap.size w w') : Pq w' B v L := h.only (Only.ofBelow hb) (fun _ _ d => d)
theorem Pq.lift {w : World} {B B' : Nat} {v : Value} {L : List Px} (h : Pq w B v L) (hB : B' ≤ B) : Pq w B' v L := ⟨row_lift6 h.row hB, fun x hx => row_lift6 (h.path x hx) hB, h.plen⟩
theorem Pq.form {w : World} {B : Nat} {v : Value} {L : List Px} (h : Pq w B v L) : ∃ a c, v = .slice a L.length c := by
  rcases h.row.shape with ⟨rfl, rfl⟩ | ⟨g, cap, rfl, -⟩
  · exact ⟨none, 0, rfl⟩
  · exact ⟨_, _, rfl⟩
theorem Tryz.info75 : (Tryz.prog.info? 75).map (fun i => (i.zero, i.size, i.bytes)) = some (some (.agg #[.slice none 0 0, .int .i64 0, .string ⟨#[]⟩]), 3, 48) := by kernel_rfl
/-- A place is laid behind the row. -/
theorem push_pl {w : World} {B b : Nat} {v : Value} {L : List Px} {x : Px} (hown : Pq w B v L) (hx : Os w B (.slice x.2.1 x.1.1.length x.2.2) x.1.1) (hxl : x.1.1.length ≤ 1000000) (hcell : w.heap[b]? = some (.cells (encP x).toArray 75 (0, 0))) (hp : L.length + 1 ≤ 1000000) (hB : B ≤ w.heap.size) :
    ∃ v' w', (Builtin.append_ #[70, 70] 70 #[v, .slice (some ⟨b, 0, none⟩) 1 1]).run Tryz.prog w = .ok v' w' ∧ Pq w' B v' (L ++ [x]) ∧ w.grownBy w' v.ownBlock ∧ Below B w w' := by
  have h9 := Tryz.info75
  cases hi0 : Tryz.prog.info? 75 with
  | none => rw [hi0] at h9; cases h9
  | some i0 =>
    rw [hi0] at h9
    simp only [Option.map_some, Option.some.injEq, Prod.mk.injEq] at h9
    obtain ⟨v', w', hr, h2, h3, -⟩ := run_append_own (P := Tryz.prog) w B 70 70 75 i0 (.agg #[.slice none 0 0, .int .i64 0, .string ⟨#[]⟩]) 3 48 Tryz.underlying70 hi0 h9.1 h9.2.1 h9.2.2 rfl (by decide) v L.length (flatP L) hown.row ⟨b, 0, none⟩ 1 1 (encP x) (by simp [encP]) (fun j u hj => by rw [add_lit, cell_of_row _ _ (0 + j) _ 75 (0, 0) hcell, Nat.zero_add]; simpa using hj) (fun u hu => by simp [encP] at hu; rcases hu with rfl | rfl | rfl <;> rfl) (by unfold maxLen; omega) (by omega) hB
    have hb := (Below.refl B w).grown h3 hB (fun k hk => (World.ownsRow.lt hown.row k hk).1)
    have hne : ∀ y : Px, Os w B (.slice y.2.1 y.1.1.length y.2.2) y.1.1 → ∀ k, (Value.slice y.2.1 y.1.1.length y.2.2).ownBlock = some k → ¬ (v.ownBlock = some k) := fun y hy k hk hv => by
      rcases hown.row.2 with ⟨rfl, -⟩ | ⟨g, cap, cur, rfl, -, hg, -⟩
      · cases hv
      · rcases hy.2 with ⟨e, -⟩ | ⟨g2, cap2, cur2, e, -, hg2, -⟩
        · rw [e] at hk; cases hk
        · rw [e] at hk
          simp only [Value.ownBlock, Option.some.injEq] at hk hv
          subst hk
          subst hv
          rw [hg] at hg2
          simp at hg2
    refine ⟨v', w', hr, ⟨?_, fun y hy => ?_, fun y hy => ?_⟩, h3, hb⟩
    · unfold Opl
      rw [List.length_append, flatP_app]
      have : flatP [x] = encP x := by simp [flatP]
      rw [this]
      exact h2
    · rcases List.mem_append.1 hy with hy | hy
      · exact (hown.path y hy).only (Only.ofGrown h3) (hne y (hown.path y hy))
      · simp only [List.mem_cons, List.not_mem_nil, or_false] at hy
        subst hy
        exact hx.only (Only.ofGrown h3) (hne y hx)
    · rcases List.mem_append.1 hy with hy | hy
      · exact hown.plen y hy
      · simp only [List.mem_cons, List.not_mem_nil, or_false] at hy
        subst hy; exact hxl
end Go.Proofs.YtpepgoelnagoaaaGreatDoor
namespace Go.Proofs.YtpepgoelnagoaaaGreatDoor
open Go.RowKit Go.Shelf
set_option linter.unusedSimpArgs false
set_option linter.unusedVariables false
attribute [local go_sem] Oper.semAt_some

/-- The order of places. -/
def cfL (a b : Pl) : Int := cmpL a.1 b.1 a.2.1 b.2.1 a.2.2 b.2.2
theorem cfL_eq {a b : Pl} : cfL a b = 0 ↔ a = b := by
  obtain ⟨l, x, s⟩ := a
  obtain ⟨m, y, t⟩ := b
  show cmpL l m x y s t = 0 ↔ _
  rw [cmpL_eq]
  constructor
  · intro h
    split at h
    · rename_i h1
      split at h
      · rename_i h2
        rw [cp_eq _ _ h1, ord_I.eq _ _ h2, ord_B.eq _ _ h]
      · rename_i h2
        exact absurd h h2
    · rename_i h1
      exact absurd h h1
  · intro h
    simp only [Prod.mk.injEq] at h
    obtain ⟨rfl, rfl, rfl⟩ := h
    have e1 : cmpP l l = 0 := by have := cp_anti l l; omega
    rw [if_pos e1, if_pos (ord_I.refl x)]
    exact ord_B.refl s
abbrev plV (x : Px) : Value := .agg #[.slice x.2.1 x.1.1.length x.2.2, .int .i64 x.1.2.1, .string x.1.2.2]

set_option maxHeartbeats 1000000 in
set_option maxRecDepth 100000 in
theorem samePlace_any {w : World} (x y : Px) (hx : Rs w x.2.1 x.1.1) (hy : Rs w y.2.1 y.1.1) (hl : x.1.1.length ≤ 1000000) : Calls Tryz.prog 85 #[plV x, plV y] w fun e w' => e = .returned (.bool (decide (x.1 = y.1))) ∧ Below w.heap.size w w' := by
  obtain ⟨⟨l, k, s⟩, a, c⟩ := x
  obtain ⟨⟨m, k2, t⟩, b, d⟩ := y
  dsimp only at hx hy hl ⊢
  obtain ⟨m0, m1⟩ := new2 w (.cells #[.slice a l.length c, .int .i64 k, .string s] 75) (.cells #[.slice b m.length d, .int .i64 k2, .string t] 75)
  have hb : Below w.heap.size w ((w.alloc (.cells #[.slice a l.length c, .int .i64 k, .string s] 75)).alloc (.cells #[.slice b m.length d, .int .i64 k2, .string t] 75)) := ((Below.refl _ w).alloc (Nat.le_refl _) _).alloc (by simp) _
  have hc := cmpPlace_any (c := c) (d := d) k k2 s t (hx.below hb) (hy.below hb) (by omega)
  have he : decide ((l, k, s) = (m, k2, t)) = (cmpL l m k k2 s t == 0) := by
    have := cfL_eq (a := (l, k, s)) (b := (m, k2, t))
    by_cases h : (l, k, s) = (m, k2, t)
    · have h2 : cmpL l m k k2 s t = 0 := this.2 h
      rw [decide_eq_true h, h2]
      rfl
    · have h2 : cmpL l m k k2 s t ≠ 0 := fun e => h (this.1 e)
      rw [decide_eq_false h]
      simpa using h2
  rw [he]
  generalize cmpL l m k k2 s t = V at hc
  obtain ⟨p0, p1, p2, -, -, -⟩ := blk3 m0
  obtain ⟨q0, q1, q2, -, -, -⟩ := blk3 m1
  have HB := hide hb
  clear he hx hy hb m0 m1
  go_enter Tryz.func85, Tryz.ntmps85
  go_wp2_with (go_at_call 83; refine hc.mono ?_; rintro e w3 ⟨rfl, b3⟩; have B3 := hide (HB.out.trans (b3.mono HB.out.size)); clear b3 hc)
  go_ret
  exact ⟨rfl, B3.out⟩

theorem flatP_set : ∀ (M : List Px) (k : Nat) (x : Px), k < M.length → flatP (M.set k x) = (((flatP M).set (k * 3) (.slice x.2.1 x.1.1.length x.2.2)).set (k * 3 + 1) (.int .i64 x.1.2.1)).set (k * 3 + 2) (.string x.1.2.2)
  | [], k, x, h => by simp at h
  | y :: t, 0, x, _ => by simp [flatP, encP]
  | y :: t, k + 1, x, h => by
    have ih := flatP_set t k x (by simpa using h)
    rw [List.set_cons_succ, flatP_cons, ih, flatP_cons]
    simp only [encP, List.cons_append, List.nil_append]
    rw [show (k + 1) * 3 = k * 3 + 1 + 1 + 1 by omega]
    simp only [List.set_cons_succ]
theorem Opl.set3 {W : World} {B g cap : Nat} {M : List Px} (h : Opl W B (.slice (some ⟨g, 0, none⟩) M.length cap) M) {k : Nat} (hk : k < M.length) (x : Px) :
    Opl (((W.setCell ⟨g, k * 3, none⟩ (.slice x.2.1 x.1.1.length x.2.2)).setCell ⟨g, k * 3 + 1, none⟩ (.int .i64 x.1.2.1)).setCell ⟨g, k * 3 + 2, none⟩ (.string x.1.2.2)) B (.slice (some ⟨g, 0, none⟩) (M.set k x).length cap) (M.set k x) ∧
    Only (fun j => j = g) W (((W.setCell ⟨g, k * 3, none⟩ (.slice x.2.1 x.1.1.length x.2.2)).setCell ⟨g, k * 3 + 1, none⟩ (.int .i64 x.1.2.1)).setCell ⟨g, k * 3 + 2, none⟩ (.string x.1.2.2)) := by
  rcases h.2 with ⟨h1, _⟩ | ⟨g', cap', cur, e, hb, hg, hnc, hcm, hcs, htk⟩
  · cases h1
  · injection e with e1 e2 e3
    injection e1 with e1
    injection e1 with e1 _ _
    subst e1 e3
    obtain ⟨c1, o1⟩ := Ki.set_one (i := k * 3) (.slice x.2.1 x.1.1.length x.2.2) hg
    obtain ⟨c2, o2⟩ := Ki.set_one (i := k * 3 + 1) (.int .i64 x.1.2.1) c1
    obtain ⟨c3, o3⟩ := Ki.set_one (i := k * 3 + 2) (.string x.1.2.2) c2
    refine ⟨⟨by rw [flatP_len], .inr ⟨g, cap, _, rfl, hb, c3, by simpa using hnc, hcm, by simp [hcs], ?_⟩⟩, (o1.trans o2 (fun _ _ e => e)).trans o3 (fun _ _ e => e)⟩
    rw [flatP_set M k x hk, ← htk, List.length_set]
    simp only [Array.toList_setIfInBounds, List.take_set]
theorem Opl.cells3 {W : World} {B g cap n : Nat} {M : List Px} (h : Opl W B (.slice (some ⟨g, 0, none⟩) n cap) M) {k : Nat} {x : Px} (hx : M[k]? = some x) : W.cell? ⟨g, k * 3, none⟩ = some (.slice x.2.1 x.1.1.length x.2.2) ∧ W.cell? ⟨g, k * 3 + 1, none⟩ = some (.int .i64 x.1.2.1) ∧ W.cell? ⟨g, k * 3 + 2, none⟩ = some (.string x.1.2.2) := by
  have := h.rn.at hx
  simpa using this
theorem Opl.frz {W : World} {B g cap n : Nat} {M : List Px} (h : Opl W B (.slice (some ⟨g, 0, none⟩) n cap) M) (j : Nat) : W.frozen? ⟨g, j, none⟩ = false := by
  rcases h.2 with ⟨h1, _⟩ | ⟨g', cap', cur, e, hb, hg, _⟩
  · cases h1
  · injection e with e1 e2 e3
    injection e1 with e1
    injection e1 with e1 _ _
    subst e1
    exact frozen_of_row _ _ j _ 75 hg
theorem Opl.take {W : World} {B g cap : Nat} {M : List Px} (h : Opl W B (.slice (some ⟨g, 0, none⟩) M.length cap) M) (k : Nat) (hk : k ≤ M.length) : Opl W B (.slice (some ⟨g, 0, none⟩) (M.take k).length cap) (M.take k) := by
  rcases h.2 with ⟨h1, _⟩ | ⟨g', cap', cur, e, hb, hg, hnc, hcm, hcs, htk⟩
  · cases h1
  · injection e with e1 e2 e3
    injection e1 with e1
    injection e1 with e1 _ _
    subst e1 e3
    have hl : (M.take k).length = k := by rw [List.length_take]; omega
    refine ⟨by rw [flatP_len], .inr ⟨g, cap, cur, rfl, hb, hg, by rw [hl]; omega, hcm, hcs, ?_⟩⟩
    rw [hl]
    have h1 : flatP M = flatP (M.take k) ++ flatP (M.drop k) := by rw [← flatP_app, List.take_append_drop]
    have h2 : (cur.toList.take (M.length * 3)).take (k * 3) = (flatP M).take (k * 3) := by rw [htk]
    rw [List.take_take, Nat.min_eq_left (Nat.mul_le_mul_right 3 hk), h1, List.take_append_of_le_length (by rw [flatP_len, hl]; exact Nat.le_refl _)] at h2
    exact h2.trans (List.take_of_length_le (by rw [flatP_len, hl]; exact Nat.le_refl _))
theorem setCells_row (g : Nat) : ∀ (vs : List Value) (o : Nat) (w : World) (cur : Array Value) (ty : TypeId), w.heap[g]? = some (.cells cur ty (0, 0)) → ∃ cur', (w.setCells g o vs).heap[g]? = some (.cells cur' ty (0, 0)) ∧ cur'.size = cur.size ∧ (∀ j, j < o → cur'[j]? = cur[j]?) ∧ Only (fun j => j = g) w (w.setCells g o vs)
  | [], o, w, cur, ty, h => ⟨cur, h, rfl, fun _ _ => rfl, Only.refl _ _⟩
  | v :: r, o, w, cur, ty, h => by
    obtain ⟨c, ho⟩ := Ki.set_one (i := o) v h
    obtain ⟨cur', h1, h2, h3, h4⟩ := setCells_row g r (o + 1) _ _ ty c
    refine ⟨cur', h1, by rw [h2]; simp, fun j hj => ?_, ho.trans h4 (fun _ _ e => e)⟩
    rw [h3 j (by omega), Array.getElem?_setIfInBounds_ne (by omega)]
/-- The places behind k are cleared. -/
theorem clear_pl {W : World} {B g cap : Nat} {M : List Px} (h : Opl W B (.slice (some ⟨g, 0, none⟩) M.length cap) M) {k c : Nat} (hk : k < M.length) :
    ∃ W', (Builtin.clear_ #[70] 0 #[.slice (some ⟨g, k * 3, none⟩) (M.length - k) c]).run Tryz.prog W = .ok (.tuple #[]) W' ∧ Opl W' B (.slice (some ⟨g, 0, none⟩) (M.take k).length cap) (M.take k) ∧ Only (fun j => j = g) W W' := by
  have ht := h.take k (by omega)
  rcases ht.2 with ⟨h1, _⟩ | ⟨g', cap', cur, e, hb, hg, hnc, hcm, hcs, htk⟩
  · cases h1
  · injection e with e1 e2 e3
    injection e1 with e1
    injection e1 with e1 _ _
    subst e1 e3
    obtain ⟨m, hm⟩ : ∃ m, M.length - k = m + 1 := ⟨M.length - k - 1, by omega⟩
    have hcap : M.length ≤ cap := by
      rcases h.2 with ⟨h1, _⟩ | ⟨g', cap', cur', e, hb', hg', hnc', _⟩
      · cases h1
      · injection e with e1 e2 e3
        omega
    have hk3 : (M.take k).length = k := by rw [List.length_take]; omega
    obtain ⟨vs, hvs⟩ : ∃ r, r = (Builtin.zeroCells (Value.agg #[.slice none 0 0, .int .i64 0, .string ⟨#[]⟩]).cells (m + 1)).toList := ⟨_, rfl⟩
    have hvl : vs.length = (m + 1) * 3 := by rw [hvs]; simp [Builtin.zeroCells, Value.cells]
    have hv1 : ∀ v ∈ vs, v.oneCell' = true := by
      intro v hv
      rw [hvs] at hv
      simp only [Builtin.zeroCells, Value.cells, Array.toList_map, List.mem_map] at hv
      obtain ⟨i, -, rfl⟩ := hv
      have : i % 3 < 3 := Nat.mod_lt _ (by decide)
      show (#[Value.slice none 0 0, .int .i64 0, .string ⟨#[]⟩][i % 3]!).oneCell' = true
      rcases (by omega : i % 3 = 0 ∨ i % 3 = 1 ∨ i % 3 = 2) with e | e | e <;> rw [e] <;> rfl
    have hrun := run_storeCells_cells (P := Tryz.prog) g (k * 3) vs 0 W (fun j hj => by
      rw [Nat.add_zero, cell_of_row _ _ _ _ 75 (0, 0) hg, Array.getElem?_eq_getElem (by rw [hcs]; have : (k + (m + 1)) * 3 ≤ cap * 3 := Nat.mul_le_mul_right 3 (by omega); omega)]
      rfl) (fun j hj => frozen_of_row _ _ _ _ 75 hg) hv1
    rw [Nat.add_zero] at hrun
    obtain ⟨cur', r1, r2, r3, r4⟩ := setCells_row g vs (k * 3) W cur 75 hg
    refine ⟨W.setCells g (k * 3) vs, ?_, ⟨by rw [flatP_len], .inr ⟨g, cap, cur', rfl, hb, r1, hnc, hcm, by rw [r2, hcs], ?_⟩⟩, r4⟩
    · rw [hm]
      have hz : ∀ w, (zeroValue 75).run Tryz.prog w = .ok (Value.agg #[.slice none 0 0, .int .i64 0, .string ⟨#[]⟩]) w := fun w => Tryz.zeroValue75 w
      simp only [Builtin.clear_, run_underlying Tryz.underlying70, hz, hvs] at hrun ⊢
      simp [run_underlying Tryz.underlying70, hz, hrun]
    · rw [hk3] at htk ⊢
      rw [← htk]
      apply List.ext_getElem?
      intro j
      rw [List.getElem?_take, List.getElem?_take]
      split
      · rename_i hj
        rw [Array.getElem?_toList, Array.getElem?_toList, r3 j hj]
      · rfl
end Go.Proofs.YtpepgoelnagoaaaGreatDoor
namespace Go.Proofs
open Go.Shelf
def Tryz.sortPlaces_ren : Go.Shelf.Ren := ⟨fun | 6 => 82 | 15 => 123 | 14 => 122 | 28 => 162 | 29 => 163 | 20 => 154 | 21 => 155 | 22 => 156 | 23 => 157 | 24 => 158 | 25 => 159 | 26 => 160 | 27 => 161 | 46 => 184 | 47 => 185 | 48 => 186 | 49 => 187 | 50 => 188 | 57 => 200 | n => n, fun | 22 => 70 | 24 => 75 | 25 => 73 | 3 => 3 | 39 => 167 | 0 => 0 | 53 => 217 | 55 => 86 | 4 => 4 | 46 => 210 | 45 => 209 | 50 => 214 | 5 => 5 | 9 => 9 | 66 => 239 | 70 => 243 | 76 => 253 | 77 => 254 | n => n, fun | n => n⟩
theorem Tryz.sortPlaces : Go.Proofs.SlLaysF0.n6 Tryz.prog Tryz.sortPlaces_ren := {
  mixed := by kernel_rfl
  f6 := ⟨Tryz.f82.name, by decide, Tryz.func82.trans (congrArg some (by kernel_rfl))⟩
  f14 := ⟨Tryz.f122.name, by decide, Tryz.func122.trans (congrArg some (by kernel_rfl))⟩
  f15 := Tryz.func123.trans (congrArg some (by kernel_rfl))
  f20 := ⟨Tryz.f154.name, by decide, Tryz.func154.trans (congrArg some (by kernel_rfl))⟩
  f21 := ⟨Tryz.f155.name, by decide, Tryz.func155.trans (congrArg some (by kernel_rfl))⟩
  f22 := ⟨Tryz.f156.name, by decide, Tryz.func156.trans (congrArg some (by kernel_rfl))⟩
  f23 := ⟨Tryz.f157.name, by decide, Tryz.func157.trans (congrArg some (by kernel_rfl))⟩
  f24 := ⟨Tryz.f158.name, by decide, Tryz.func158.trans (congrArg some (by kernel_rfl))⟩
  f25 := ⟨Tryz.f159.name, by decide, Tryz.func159.trans (congrArg some (by kernel_rfl))⟩
  f26 := ⟨Tryz.f160.name, by decide, Tryz.func160.trans (congrArg some (by kernel_rfl))⟩
  f27 := ⟨Tryz.f161.name, by decide, Tryz.func161.trans (congrArg some (by kernel_rfl))⟩
  f28 := Tryz.func162.trans (congrArg some (by kernel_rfl))
  f29 := Tryz.func163.trans (congrArg some (by kernel_rfl))
  f46 := ⟨Tryz.f184.name, by decide, Tryz.func184.trans (congrArg some (by kernel_rfl))⟩
  f47 := Tryz.func185.trans (congrArg some (by kernel_rfl))
  f48 := Tryz.func186.trans (congrArg some (by kernel_rfl))
  f49 := ⟨Tryz.f187.name, by decide, Tryz.func187.trans (congrArg some (by kernel_rfl))⟩
  f50 := ⟨Tryz.f188.name, by decide, Tryz.func188.trans (congrArg some (by kernel_rfl))⟩
  f57 := ⟨Tryz.f200.name, by decide, Tryz.func200.trans (congrArg some (by kernel_rfl))⟩
  t0 := Tryz.underlying0
  a0 := Tryz.isAgg0
  z0 := Tryz.sizeOf0
  v0 := Tryz.zeroValue0
  t3 := Tryz.underlying3
  a3 := Tryz.isAgg3
  z3 := Tryz.sizeOf3
  v3 := Tryz.zeroValue3
  t4 := Tryz.underlying4
  a4 := Tryz.isAgg4
  z4 := Tryz.sizeOf4
  v4 := Tryz.zeroValue4
  t5 := Tryz.underlying5
  a5 := Tryz.isAgg5
  z5 := Tryz.sizeOf5
  v5 := Tryz.zeroValue5
  t9 := Tryz.underlying9
  a9 := Tryz.isAgg9
  z9 := Tryz.sizeOf9
  v9 := Tryz.zeroValue9
  t22 := Tryz.underlying70
  a22 := Tryz.isAgg70
  z22 := Tryz.sizeOf70
  v22 := Tryz.zeroValue70
  t25 := Tryz.underlying73
  a25 := Tryz.isAgg73
  z25 := Tryz.sizeOf73
  v25 := Tryz.zeroValue73
  t39 := Tryz.underlying167
  a39 := Tryz.isAgg167
  z39 := Tryz.sizeOf167
  v39 := Tryz.zeroValue167
  t45 := Tryz.underlying209
  a45 := Tryz.isAgg209
  z45 := Tryz.sizeOf209
  v45 := Tryz.zeroValue209
  t46 := Tryz.underlying210
  a46 := Tryz.isAgg210
  z46 := Tryz.sizeOf210
  v46 := Tryz.zeroValue210
  t50 := Tryz.underlying214
  a50 := Tryz.isAgg214
  z50 := Tryz.sizeOf214
  v50 := Tryz.zeroValue214
  t53 := Tryz.underlying217
  a53 := Tryz.isAgg217
  z53 := Tryz.sizeOf217
  v53 := Tryz.zeroValue217
  t55 := Tryz.underlying86
  a55 := Tryz.isAgg86
  z55 := Tryz.sizeOf86
  v55 := Tryz.zeroValue86
  t66 := Tryz.underlying239
  a66 := Tryz.isAgg239
  z66 := Tryz.sizeOf239
  v66 := Tryz.zeroValue239
  t70 := Tryz.underlying243
  a70 := Tryz.isAgg243
  z70 := Tryz.sizeOf243
  v70 := Tryz.zeroValue243
  t76 := Tryz.underlying253
  a76 := Tryz.isAgg253
  z76 := Tryz.sizeOf253
  v76 := Tryz.zeroValue253
  t77 := Tryz.underlying254
  a77 := Tryz.isAgg254
  z77 := Tryz.sizeOf254
  v77 := Tryz.zeroValue254 }
end Go.Proofs
namespace Go.Proofs.YtpepgoelnagoaaaGreatDoor
open Go.RowKit Go.Shelf
set_option linter.unusedSimpArgs false
set_option linter.unusedVariables false

theorem grow_two (w : World) (o1 o2 : Obj) : (w.alloc o1).alloc o2 = Go.Sort.grow w #[o1, o2] := by
  unfold Go.Sort.grow
  have : (w.heap.push o1).push o2 = w.heap ++ #[o1, o2] := by apply Array.ext'; simp
  rw [← this]; rfl
theorem grow_one (w : World) (os : Array Obj) (o : Obj) : (Go.Sort.grow w os).drew.alloc o = Go.Sort.grow (w.drewN 1) (os.push o) := by
  unfold Go.Sort.grow
  have : (w.heap ++ os).push o = w.heap ++ os.push o := by apply Array.ext'; simp
  show World.alloc _ _ = _
  have e2 : (w.drewN 1).heap = w.heap := rfl
  rw [e2, ← this]; rfl
set_option maxHeartbeats 1000000 in
set_option maxRecDepth 100000 in
theorem cmpPlace_grow {w : World} {a b : Option Addr} {c d : Nat} {l m : List ByteArray} (x y : Int) (s t : ByteArray) (hl : Rs w a l) (hm : Rs w b m) (hn : l.length ≤ 9223372036854775807) :
    Calls Tryz.prog 83 #[plv a l.length c x s, plv b m.length d y t] w fun e w' => e = .returned (.int .i64 (cmpL l m x y s t)) ∧ ∃ q os, w' = Go.Sort.grow (w.drewN q) os := by
  obtain ⟨m0, m1⟩ := new2 w (.cells #[.slice a l.length c, .int .i64 x, .string s] 75) (.cells #[.slice b m.length d, .int .i64 y, .string t] 75)
  have hb : Below w.heap.size w ((w.alloc (.cells #[.slice a l.length c, .int .i64 x, .string s] 75)).alloc (.cells #[.slice b m.length d, .int .i64 y, .string t] 75)) := ((Below.refl _ w).alloc (Nat.le_refl _) _).alloc (by simp) _
  have hs : ((w.alloc (.cells #[.slice a l.length c, .int .i64 x, .string s] 75)).alloc (.cells #[.slice b m.length d, .int .i64 y, .string t] 75)).heap.size = w.heap.size + 2 := by simp
  have hgw : ∃ os, ((w.alloc (.cells #[.slice a l.length c, .int .i64 x, .string s] 75)).alloc (.cells #[.slice b m.length d, .int .i64 y, .string t] 75)) = Go.Sort.grow w os := ⟨#[.cells #[.slice a l.length c, .int .i64 x, .string s] 75, .cells #[.slice b m.length d, .int .i64 y, .string t] 75], grow_two _ _ _⟩
  have HG := hide hgw
  clear hgw
  obtain ⟨p0, p1, p2, -, -, -⟩ := blk3 m0
  obtain ⟨q0, q1, q2, -, -, -⟩ := blk3 m1
  go_enter Tryz.func83, Tryz.ntmps83
  go_wp2
  generalize ((w.alloc (.cells #[.slice a l.length c, .int .i64 x, .string s] 75)).alloc (.cells #[.slice b m.length d, .int .i64 y, .string t] 75)) = W at HG hb hs p0 p1 p2 q0 q1 q2 ⊢
  have hcp := cmpPath_any (c := c) (d := d) ((hl.below hb).drew) ((hm.below hb).drew) hn
  have hS1 : W.drew.cell? ⟨w.heap.size, 0, none⟩ = some (.slice a l.length c) ∧ W.drew.cell? ⟨w.heap.size, 1, none⟩ = some (.int .i64 x) ∧ W.drew.cell? ⟨w.heap.size, 2, none⟩ = some (.string s) ∧ W.drew.cell? ⟨w.heap.size + 1, 0, none⟩ = some (.slice b m.length d) ∧ W.drew.cell? ⟨w.heap.size + 1, 1, none⟩ = some (.int .i64 y) ∧ W.drew.cell? ⟨w.heap.size + 1, 2, none⟩ = some (.string t) := ⟨p0, p1, p2, q0, q1, q2⟩
  refine wp_region_held_drew (S := (fun w' => w'.cell? ⟨w.heap.size, 0, none⟩ = some (.slice a l.length c) ∧ w'.cell? ⟨w.heap.size, 1, none⟩ = some (.int .i64 x) ∧ w'.cell? ⟨w.heap.size, 2, none⟩ = some (.string s) ∧ w'.cell? ⟨w.heap.size + 1, 0, none⟩ = some (.slice b m.length d) ∧ w'.cell? ⟨w.heap.size + 1, 1, none⟩ = some (.int .i64 y) ∧ w'.cell? ⟨w.heap.size + 1, 2, none⟩ = some (.string t))) (by kernel_rfl) (by exact hS1) (fun hHeld => ?_)
  try dsimp only at hHeld
  refine take_op (i := 0) (d := 5) (OP := Op.fieldAddr 75 (Operand.tmp 2) 0) (T := 0) (v := ?vq1x) rfl rfl rfl rfl (by kernel_rfl) (by kernel_rfl) (by kernel_rfl) (fun _ _ _ h => h) (by rfl) ?hq1x hHeld ?rq1x
  case hq1x => (intro w' hSw; (try dsimp only at hSw); go_simp <;> with_reducible rfl)
  try simp only [Act.put, List.setIfInBounds_toArray, List.set_cons_zero, List.set_cons_succ]
  refine take_op (i := 1) (d := 6) (OP := Op.load 30 (Operand.tmp 5)) (T := 30) (v := ?vq2x) rfl rfl rfl rfl (by kernel_rfl) (by kernel_rfl) (by kernel_rfl) (fun _ _ _ h => h) (by rfl) ?hq2x hHeld ?rq2x
  case hq2x => (intro w' hSw; (try dsimp only at hSw); go_simp <;> with_reducible rfl)
  try simp only [Act.put, List.setIfInBounds_toArray, List.set_cons_zero, List.set_cons_succ]
  refine take_op (i := 2) (d := 7) (OP := Op.fieldAddr 75 (Operand.tmp 3) 0) (T := 0) (v := ?vq3x) rfl rfl rfl rfl (by kernel_rfl) (by kernel_rfl) (by kernel_rfl) (fun _ _ _ h => h) (by rfl) ?hq3x hHeld ?rq3x
  case hq3x => (intro w' hSw; (try dsimp only at hSw); go_simp <;> with_reducible rfl)
  try simp only [Act.put, List.setIfInBounds_toArray, List.set_cons_zero, List.set_cons_succ]
  refine take_op (i := 3) (d := 8) (OP := Op.load 30 (Operand.tmp 7)) (T := 30) (v := ?vq4x) rfl rfl rfl rfl (by kernel_rfl) (by kernel_rfl) (by kernel_rfl) (fun _ _ _ h => h) (by rfl) ?hq4x hHeld ?rq4x
  case hq4x => (intro w' hSw; (try dsimp only at hSw); go_simp <;> with_reducible rfl)
  try simp only [Act.put, List.setIfInBounds_toArray, List.set_cons_zero, List.set_cons_succ]
  refine take_op (i := 5) (d := 10) (OP := Op.fieldAddr 75 (Operand.tmp 2) 1) (T := 0) (v := ?vq5x) rfl rfl rfl rfl (by kernel_rfl) (by kernel_rfl) (by kernel_rfl) (fun _ _ _ h => h) (by rfl) ?hq5x hHeld ?rq5x
  case hq5x => (intro w' hSw; (try dsimp only at hSw); go_simp <;> with_reducible rfl)
  try simp only [Act.put, List.setIfInBounds_toArray, List.set_cons_zero, List.set_cons_succ]
  refine take_op (i := 6) (d := 11) (OP := Op.load 31 (Operand.tmp 10)) (T := 31) (v := ?vq6x) rfl rfl rfl rfl (by kernel_rfl) (by kernel_rfl) (by kernel_rfl) (fun _ _ _ h => h) (by rfl) ?hq6x hHeld ?rq6x
  case hq6x => (intro w' hSw; (try dsimp only at hSw); go_simp <;> with_reducible rfl)
  try simp only [Act.put, List.setIfInBounds_toArray, List.set_cons_zero, List.set_cons_succ]
  refine take_op (i := 7) (d := 12) (OP := Op.fieldAddr 75 (Operand.tmp 3) 1) (T := 0) (v := ?vq7x) rfl rfl rfl rfl (by kernel_rfl) (by kernel_rfl) (by kernel_rfl) (fun _ _ _ h => h) (by rfl) ?hq7x hHeld ?rq7x
  case hq7x => (intro w' hSw; (try dsimp only at hSw); go_simp <;> with_reducible rfl)
  try simp only [Act.put, List.setIfInBounds_toArray, List.set_cons_zero, List.set_cons_succ]
  refine take_op (i := 8) (d := 13) (OP := Op.load 31 (Operand.tmp 12)) (T := 31) (v := ?vq8x) rfl rfl rfl rfl (by kernel_rfl) (by kernel_rfl) (by kernel_rfl) (fun _ _ _ h => h) (by rfl) ?hq8x hHeld ?rq8x
  case hq8x => (intro w' hSw; (try dsimp only at hSw); go_simp <;> with_reducible rfl)
  try simp only [Act.put, List.setIfInBounds_toArray, List.set_cons_zero, List.set_cons_succ]
  refine take_op (i := 10) (d := 15) (OP := Op.fieldAddr 75 (Operand.tmp 2) 2) (T := 0) (v := ?vq9x) rfl rfl rfl rfl (by kernel_rfl) (by kernel_rfl) (by kernel_rfl) (fun _ _ _ h => h) (by rfl) ?hq9x hHeld ?rq9x
  case hq9x => (intro w' hSw; (try dsimp only at hSw); go_simp <;> with_reducible rfl)
  try simp only [Act.put, List.setIfInBounds_toArray, List.set_cons_zero, List.set_cons_succ]
  refine take_op (i := 11) (d := 16) (OP := Op.load 9 (Operand.tmp 15)) (T := 9) (v := ?vq10x) rfl rfl rfl rfl (by kernel_rfl) (by kernel_rfl) (by kernel_rfl) (fun _ _ _ h => h) (by rfl) ?hq10x hHeld ?rq10x
  case hq10x => (intro w' hSw; (try dsimp only at hSw); go_simp <;> with_reducible rfl)
  try simp only [Act.put, List.setIfInBounds_toArray, List.set_cons_zero, List.set_cons_succ]
  refine take_op (i := 12) (d := 17) (OP := Op.fieldAddr 75 (Operand.tmp 3) 2) (T := 0) (v := ?vq11x) rfl rfl rfl rfl (by kernel_rfl) (by kernel_rfl) (by kernel_rfl) (fun _ _ _ h => h) (by rfl) ?hq11x hHeld ?rq11x
  case hq11x => (intro w' hSw; (try dsimp only at hSw); go_simp <;> with_reducible rfl)
  try simp only [Act.put, List.setIfInBounds_toArray, List.set_cons_zero, List.set_cons_succ]
  refine take_op (i := 13) (d := 18) (OP := Op.load 9 (Operand.tmp 17)) (T := 9) (v := ?vq12x) rfl rfl rfl rfl (by kernel_rfl) (by kernel_rfl) (by kernel_rfl) (fun _ _ _ h => h) (by rfl) ?hq12x hHeld ?rq12x
  case hq12x => (intro w' hSw; (try dsimp only at hSw); go_simp <;> with_reducible rfl)
  try simp only [Act.put, List.setIfInBounds_toArray, List.set_cons_zero, List.set_cons_succ]
  refine call_op (i := 4) (d := 9) (OP := Op.call { callee := Callee.value (Operand.func 125), args := #[Operand.tmp 6, Operand.tmp 8], argTypes := #[30, 30] }) (T := 3) (f := 125) (args := #[.slice a l.length c, .slice b m.length d]) rfl rfl rfl rfl (by kernel_rfl) (by rfl) (by go_simp) ?_
  refine (hcp).mono ?_
  rintro e w' ⟨rfl, hw1⟩
  subst hw1
  refine ⟨_, rfl, hHeld, ?_⟩
  replace hHeld := hHeld
  try simp only [Act.put, List.setIfInBounds_toArray, List.set_cons_zero, List.set_cons_succ]
  refine call_op (i := 9) (d := 14) (OP := Op.call { callee := Callee.value (Operand.func 126), args := #[Operand.tmp 11, Operand.tmp 13], argTypes := #[31, 31] }) (T := 3) (f := 126) (args := #[.int .i64 x, .int .i64 y]) rfl rfl rfl rfl (by kernel_rfl) (by rfl) (by go_simp) ?_
  refine (compare_any x y _).mono ?_
  rintro e w' ⟨rfl, hw2⟩
  subst hw2
  refine ⟨_, rfl, hHeld, ?_⟩
  replace hHeld := hHeld
  try simp only [Act.put, List.setIfInBounds_toArray, List.set_cons_zero, List.set_cons_succ]
  refine call_op (i := 14) (d := 19) (OP := Op.call { callee := Callee.value (Operand.func 127), args := #[Operand.tmp 16, Operand.tmp 18], argTypes := #[9, 9] }) (T := 3) (f := 127) (args := #[.string s, .string t]) rfl rfl rfl rfl (by kernel_rfl) (by rfl) (by go_simp) ?_
  refine (cmp_any s t _).mono ?_
  rintro e w' ⟨rfl, hw3⟩
  subst hw3
  refine ⟨_, rfl, hHeld, ?_⟩
  replace hHeld := hHeld
  try simp only [Act.put, List.setIfInBounds_toArray, List.set_cons_zero, List.set_cons_succ]
  have hb2 : Below W.heap.size W (W.drew.alloc (.cells #[.int .i64 (cmpP l m), .int .i64 (cmpI x y), .int .i64 (cmpB s t)] 3)) := (Below.refl _ W).drew.alloc (Nat.le_refl _) _
  have hnw : (W.drew.alloc (.cells #[.int .i64 (cmpP l m), .int .i64 (cmpI x y), .int .i64 (cmpB s t)] 3)).heap[W.heap.size]? = some (.cells #[.int .i64 (cmpP l m), .int .i64 (cmpI x y), .int .i64 (cmpB s t)] 3) := heap_alloc_new W.drew (.cells #[.int .i64 (cmpP l m), .int .i64 (cmpI x y), .int .i64 (cmpB s t)] 3)
  have hS2 : (W.drew.alloc (.cells #[.int .i64 (cmpP l m), .int .i64 (cmpI x y), .int .i64 (cmpB s t)] 3)).cell? ⟨w.heap.size, 0, none⟩ = some (.slice a l.length c) ∧ (W.drew.alloc (.cells #[.int .i64 (cmpP l m), .int .i64 (cmpI x y), .int .i64 (cmpB s t)] 3)).cell? ⟨w.heap.size, 1, none⟩ = some (.int .i64 x) ∧ (W.drew.alloc (.cells #[.int .i64 (cmpP l m), .int .i64 (cmpI x y), .int .i64 (cmpB s t)] 3)).cell? ⟨w.heap.size, 2, none⟩ = some (.string s) ∧ (W.drew.alloc (.cells #[.int .i64 (cmpP l m), .int .i64 (cmpI x y), .int .i64 (cmpB s t)] 3)).cell? ⟨w.heap.size + 1, 0, none⟩ = some (.slice b m.length d) ∧ (W.drew.alloc (.cells #[.int .i64 (cmpP l m), .int .i64 (cmpI x y), .int .i64 (cmpB s t)] 3)).cell? ⟨w.heap.size + 1, 1, none⟩ = some (.int .i64 y) ∧ (W.drew.alloc (.cells #[.int .i64 (cmpP l m), .int .i64 (cmpI x y), .int .i64 (cmpB s t)] 3)).cell? ⟨w.heap.size + 1, 2, none⟩ = some (.string t) := ⟨(hb2.cell (World.block_lt_of_cell? _ _ p0)).trans p0, (hb2.cell (World.block_lt_of_cell? _ _ p1)).trans p1, (hb2.cell (World.block_lt_of_cell? _ _ p2)).trans p2, (hb2.cell (World.block_lt_of_cell? _ _ q0)).trans q0, (hb2.cell (World.block_lt_of_cell? _ _ q1)).trans q1, (hb2.cell (World.block_lt_of_cell? _ _ q2)).trans q2⟩
  have hor := or_any W.heap.size 0 3 [cmpP l m, cmpI x y, cmpB s t] (W.drew.alloc (.cells #[.int .i64 (cmpP l m), .int .i64 (cmpI x y), .int .i64 (cmpB s t)] 3)) rfl (by omega) (fun i hi => by
    rw [cell_of_row _ _ (0 + i) _ 3 (0, 0) hnw]
    match i, hi with
    | 0, _ => rfl
    | 1, _ => rfl
    | 2, _ => rfl)
  refine turn_op (i := 15) (d := 20) (OP := Op.buildSlice 141 3 #[(0, Operand.tmp 9), (1, Operand.tmp 14), (2, Operand.tmp 19)]) (T := 141) (v := .slice (some ⟨W.heap.size, 0, none⟩) 3 3) (w' := (W.drew.alloc (.cells #[.int .i64 (cmpP l m), .int .i64 (cmpI x y), .int .i64 (cmpB s t)] 3))) rfl rfl rfl rfl (by kernel_rfl) (by rfl) (by go_simp) hS2 ?_
  replace hHeld := hS2
  try simp only [Act.put, List.setIfInBounds_toArray, List.set_cons_zero, List.set_cons_succ]
  refine call_op (i := 16) (d := 21) (OP := Op.call { callee := Callee.value (Operand.func 124), args := #[Operand.tmp 20], argTypes := #[141] }) (T := 3) (f := 124) (args := #[.slice (some ⟨W.heap.size, 0, none⟩) 3 3]) rfl rfl rfl rfl (by kernel_rfl) (by rfl) (by go_simp) ?_
  refine (hor).mono ?_
  rintro e w' ⟨rfl, hw4⟩
  subst hw4
  refine ⟨_, rfl, hHeld, ?_⟩
  replace hHeld := hHeld
  try simp only [Act.put, List.setIfInBounds_toArray, List.set_cons_zero, List.set_cons_succ]
  refine take_op (i := 17) (d := 4) (OP := Op.assign (Operand.tmp 21)) (T := 3) (v := ?vq18x) rfl rfl rfl rfl (by kernel_rfl) (by kernel_rfl) (by kernel_rfl) (fun _ _ _ h => h) (by rfl) ?hq18x hHeld ?rq18x
  case hq18x => (intro w' hSw; (try dsimp only at hSw); go_simp <;> with_reducible rfl)
  try simp only [Act.put, List.setIfInBounds_toArray, List.set_cons_zero, List.set_cons_succ]
  refine wpAnyH_done (by kernel_rfl) ?_ _
  go_wp2
  go_ret
  obtain ⟨os, hos⟩ := HG.out
  exact ⟨rfl, 1, os.push (.cells #[.int .i64 (cmpP l m), .int .i64 (cmpI x y), .int .i64 (cmpB s t)] 3), by rw [hos]; exact grow_one _ _ _⟩
end Go.Proofs.YtpepgoelnagoaaaGreatDoor
