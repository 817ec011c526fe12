/-
  The document's Texts 32: the region that lays a text between others.
  The document's Texts 32.
  The document's Apply 27.
  KindsApplies 4: the walk.
-/
import Derived.Test.YtkdgageljgfgoaaGreatDoorShow10
import Derived.Test.YtkdgageljgfgoaaGreatDoorDone9
import Derived.Test.YtkdgageljgfgoaaGreatDoorLeft
import Derived.Test.YtkdgageljgfgoaaGreatDoorKnownB
import Derived.Test.YtkdgageljgfgoaaGreatDoorRefThree
import Derived.Test.YtkdgageljgfgoaaGreatDoorDocStm
import Derived.Test.YtkdgageljgfgoaaGreatDoorTog10
import Derived.Deep.DeepCutAuto
import Derived.Deep.CutBlock
import Derived.BigCall
import Derived.BigGuard
import Derived.BigGuardPart
import Derived.BigRegion
import Derived.Test.YtkdgageljgfgoaaGreatDoorThreeW
namespace Go.Proofs.YtkdgageljgfgoaaGreatDoor
open Go.RowKit Go.Shelf
set_option linter.unusedSimpArgs false

/-- Texts laid behind owned ones. -/
theorem app_texts {w : World} {B : Nat} {v : Value} {p l : List ByteArray} {ao : Option Addr} {c : Nat} (hown : Ot w B v p) (hc : ao = none → c = 0) (hrd : Rs w ao l) (hbytes : p.length + l.length ≤ 1000000) (hB : B ≤ w.heap.size) :
    ∃ a' c' w', (Builtin.append_ #[22, 22] 22 #[v, .slice ao l.length c]).run Tryz.prog w = .ok (.slice a' (p ++ l).length c') w' ∧ Ot w' B (.slice a' (p ++ l).length c') (p ++ l) ∧ Below B w w' := by
  obtain ⟨i0, hi, hz0, hz1, hz2⟩ := info_of info9t
  cases ao with
  | none =>
    have hl := hrd.1 rfl
    subst hl
    have hc0 := hc rfl
    subst hc0
    rw [List.append_nil]
    rcases hown.shape with ⟨e1, e2⟩ | ⟨g, cap, e1, _⟩
    · subst e1 e2
      exact ⟨none, 0, w, run_append_owned_none (P := Tryz.prog) (w := w) B 22 22 9 i0 1 Tryz.underlying22 hi _ _ _ hown, hown, Below.refl _ _⟩
    · subst e1
      exact ⟨_, _, w, run_append_owned_none (P := Tryz.prog) (w := w) B 22 22 9 i0 1 Tryz.underlying22 hi _ _ _ hown, hown, Below.refl _ _⟩
  | some ad =>
    obtain ⟨v', w', hr, h2, h3, _⟩ := run_append_own (P := Tryz.prog) w B 22 22 9 i0 (.string ⟨#[]⟩) 1 16 Tryz.underlying22 hi hz0 hz1 hz2 rfl (by decide) v p.length (p.map Value.string) hown ad l.length c (l.map Value.string) (by simp) (fun j u hj => by
        rw [List.getElem?_map] at hj
        obtain ⟨s, hs, rfl⟩ := Option.map_eq_some_iff.1 hj
        exact hrd.2 ad rfl j s hs) (fun u hu => by obtain ⟨s, _, rfl⟩ := List.mem_map.1 hu; rfl) (by unfold maxLen; omega) (by omega) hB
    have hO : Ot w' B v' (p ++ l) := by unfold Ot; rw [List.map_append, List.length_append]; exact h2
    rcases hO.shape with ⟨e1, e2⟩ | ⟨g, cap, e1, _⟩
    · rw [e2]
      subst e1
      rw [e2] at hO
      exact ⟨none, 0, w', hr, hO, (Below.refl B w).grown h3 hB (fun k hk => (World.ownsRow.lt hown k hk).1)⟩
    · subst e1
      exact ⟨_, _, w', hr, hO, (Below.refl B w).grown h3 hB (fun k hk => (World.ownsRow.lt hown k hk).1)⟩
theorem sliceT_hi {ao : Option Addr} {n c j : Nat} (hj : j ≤ c) (hs : ∀ a, ao = some a → a.spot = none) (w : World) : (Instr.slice 22 (.slice ao n c) none (some (.int .i64 j)) none).run Tryz.prog w = .ok (.slice ao j c) w := by
  have h2 : (0 : Int) ≤ (j : Int) ∧ (j : Int) ≤ (c : Int) := by omega
  have hA : (if c = 0 then ao else ao.map (fun x => x.add 0)) = ao := by
    split
    · rfl
    · cases ao with
      | none => rfl
      | some a => obtain ⟨b, o, s⟩ := a; have := hs _ rfl; simp only at this; subst this; rw [Option.map_some, add_lit]; simp
  have : (Instr.slice 22 (.slice ao n c) none (some (.int .i64 j)) none).run Tryz.prog w = .ok (.slice (if c = 0 then ao else ao.map (fun x => x.add 0)) j c) w := by
    simp [Instr.slice, Instr.sliceBounds, Instr.sliceBound, asIntOf, run_underlying Tryz.underlying22, go_sem, hj, Tryz.sizeOf9]
  rw [this, hA]
theorem sliceT_lo {ao : Option Addr} {n c j : Nat} (hj : j ≤ n) (hn : n ≤ c) (w : World) : (Instr.slice 22 (.slice ao n c) (some (.int .i64 j)) none none).run Tryz.prog w = .ok (.slice (if c - j = 0 then ao else ao.map (fun x => x.add j)) (n - j) (c - j)) w := by
  have h2 : (0 : Int) ≤ (j : Int) ∧ (j : Int) ≤ (n : Int) := by omega
  have h3 : (n : Int) - (j : Int) = ((n - j : Nat) : Int) := by omega
  have h4 : (c : Int) - (j : Int) = ((c - j : Nat) : Int) := by omega
  have h5 : j ≤ c := by omega
  simp [Instr.slice, Instr.sliceBounds, Instr.sliceBound, asIntOf, run_underlying Tryz.underlying22, go_sem, hj, hn, h5, Tryz.sizeOf9]
  by_cases h : c = j
  · rw [if_pos h, if_pos (by omega)]
  · rw [if_neg h, if_neg (by omega)]
theorem exec_slT {ev : Operand → Value} {x z : Operand} {T : TypeId} {w : World} {u b v : Value} (hx : ev x = u) (hz : ev z = b) (h : (Instr.slice 22 u none (some b) none).run Tryz.prog w = .ok v w) :
    (execOp ev { dst := none, op := .slice 22 x none (some z) none, type := T, pos := "", after := #[], guard := none }).run Tryz.prog w = .ok (.value v) w := by
  have h2 : (Instr.sliceAt 22 u none (some b) none).run Tryz.prog w = .ok v w := by simp [Instr.sliceAt, run_underlying Tryz.underlying22, h]
  simp [execOp, hx, hz, h2, Result.andThen]
theorem exec_slL {ev : Operand → Value} {x z : Operand} {T : TypeId} {w : World} {u b v : Value} (hx : ev x = u) (hz : ev z = b) (h : (Instr.slice 22 u (some b) none none).run Tryz.prog w = .ok v w) :
    (execOp ev { dst := none, op := .slice 22 x (some z) none none, type := T, pos := "", after := #[], guard := none }).run Tryz.prog w = .ok (.value v) w := by
  have h2 : (Instr.sliceAt 22 u (some b) none none).run Tryz.prog w = .ok v w := by simp [Instr.sliceAt, run_underlying Tryz.underlying22, h]
  simp [execOp, hx, hz, h2, Result.andThen]
theorem exec_bsT {ev : Operand → Value} {x : Operand} {T : TypeId} {w : World} {t : ByteArray} (hx : ev x = .string t) : (execOp ev { dst := none, op := .buildSlice 22 1 #[(0, x)], type := T, pos := "", after := #[], guard := none }).run Tryz.prog w = .ok (.value (.slice (some ⟨w.heap.size, 0, none⟩) 1 1)) (w.alloc (.cells #[.string t] 9)) := by
  unfold execOp
  simp only [hx]
  go_simp
theorem Ot.rs {w : World} {B n c : Nat} {ao : Option Addr} {L : List ByteArray} (h : Ot w B (.slice ao n c) L) : Rs w ao L ∧ (ao = none → c = 0) ∧ (∀ a, ao = some a → a.spot = none ∧ B ≤ a.block) ∧ L.length ≤ c ∧ n = L.length := by
  rcases h.shape with ⟨e1, e2⟩ | ⟨g, cap, e1, h1, h2, h3, _⟩
  · simp only [Value.slice.injEq] at e1
    obtain ⟨rfl, rfl, rfl⟩ := e1
    subst e2
    exact ⟨⟨fun _ => rfl, fun a ha => (nomatch ha)⟩, fun _ => rfl, fun a ha => (nomatch ha), by simp, rfl⟩
  · simp only [Value.slice.injEq] at e1
    obtain ⟨rfl, rfl, rfl⟩ := e1
    exact ⟨⟨fun e => (by simp at e), fun a ha j s hj => (by cases ha; rw [add_lit]; simpa using h.cells hj)⟩, fun e => (by simp at e), fun a ha => (by cases ha; exact ⟨rfl, h1⟩), h3, rfl⟩
theorem Rs.takeT {w : World} {ao : Option Addr} {L : List ByteArray} (h : Rs w ao L) (n : Nat) : Rs w ao (L.take n) := ⟨fun e => by rw [h.1 e]; simp, fun a ha j s hj => h.2 a ha j s (by
  rw [List.getElem?_take] at hj
  split at hj
  · exact hj
  · cases hj)⟩
theorem Rs.dropT {w : World} {ao ad : Option Addr} {L : List ByteArray} {c n : Nat} (h : Rs w ao L) (hs : ∀ a, ao = some a → a.spot = none) (hc : L.length ≤ c) (he : ad = if c - n = 0 then ao else ao.map (fun x => x.add n)) : Rs w ad (L.drop n) := by
  subst he
  split
  · have : L.drop n = [] := List.drop_eq_nil_of_le (by omega)
    rw [this]
    exact ⟨fun _ => rfl, fun a _ j s hj => by simp at hj⟩
  · refine ⟨fun e => ?_, fun a ha j s hj => ?_⟩
    · cases ao with
      | none => rw [h.1 rfl]; simp
      | some x => simp at e
    · cases ao with
      | none => simp at ha
      | some x =>
        simp only [Option.map_some, Option.some.injEq] at ha
        rw [List.getElem?_drop] at hj
        have := h.2 x rfl (n + j) s hj
        obtain ⟨b, o, sp⟩ := x
        have hsp := hs _ rfl
        simp only at hsp
        subst hsp
        subst ha
        rw [add_lit] at this ⊢
        rw [add_lit]
        simpa [Nat.add_assoc] using this
theorem mark_rs {W : World} {m : Nat} {t : ByteArray} (hm : W.heap[m]? = some (.cells #[.string t] 9 (0, 0))) : Rs W (some ⟨m, 0, none⟩) [t] := ⟨fun e => by simp at e, fun a ha j s hj => by
  cases ha
  have hj0 : j = 0 := by have := (List.getElem?_eq_some_iff.1 hj).1; simp at this; exact this
  subst hj0
  simp only [List.getElem?_cons_zero, Option.some.injEq] at hj
  subst hj
  rw [add_lit]
  exact (cell_of_row _ _ 0 _ 9 (0, 0) hm).trans rfl⟩
theorem otLift {w : World} {B B' : Nat} {v : Value} {L : List ByteArray} (h : Ot w B v L) (hB : B' ≤ B) : Ot w B' v L := by
  obtain ⟨h1, h2 | ⟨g, cap, cur, e, hg, r⟩⟩ := h
  · exact ⟨h1, .inl h2⟩
  · exact ⟨h1, .inr ⟨g, cap, cur, e, Nat.le_trans hB hg, r⟩⟩
def ops_x12 : Array Oper := #[{ dst := some 53, op := Go.Op.move (Go.Operand.tmp 3), type := 22, pos := "ref.go:91", after := #[], guard := none }, { dst := some 54, op := Go.Op.move (Go.Operand.tmp 6), type := 3, pos := "ref.go:91", after := #[], guard := none }, { dst := some 55, op := Go.Op.slice 22 (Go.Operand.tmp 53) none (some (Go.Operand.tmp 54)) none, type := 22, pos := "ref.go:91", after := #[{ on := 0, ground := Go.Ground.data }, { on := 1, ground := Go.Ground.data }], guard := none }, { dst := some 56, op := Go.Op.call { callee := Go.Callee.builtin Go.Builtin.append, args := #[Go.Operand.const (Go.Value.slice none 0 0), Go.Operand.tmp 55], argTypes := #[22, 22] }, type := 22, pos := "ref.go:91", after := #[{ on := 2, ground := Go.Ground.data }], guard := none }, { dst := some 57, op := Go.Op.move (Go.Operand.tmp 5), type := 9, pos := "ref.go:91", after := #[], guard := none }, { dst := some 58, op := Go.Op.buildSlice 22 1 #[(0, Go.Operand.tmp 57)], type := 22, pos := "ref.go:91", after := #[{ on := 4, ground := Go.Ground.data }], guard := none }, { dst := some 59, op := Go.Op.call { callee := Go.Callee.builtin Go.Builtin.append, args := #[Go.Operand.tmp 56, Go.Operand.tmp 58], argTypes := #[22, 22] }, type := 22, pos := "ref.go:91", after := #[{ on := 3, ground := Go.Ground.data }, { on := 5, ground := Go.Ground.data }, { on := 3, ground := Go.Ground.chain }], guard := none }, { dst := some 60, op := Go.Op.move (Go.Operand.tmp 3), type := 22, pos := "ref.go:91", after := #[], guard := none }, { dst := some 61, op := Go.Op.move (Go.Operand.tmp 6), type := 3, pos := "ref.go:91", after := #[], guard := none }, { dst := some 62, op := Go.Op.slice 22 (Go.Operand.tmp 60) (some (Go.Operand.tmp 61)) none none, type := 22, pos := "ref.go:91", after := #[{ on := 7, ground := Go.Ground.data }, { on := 8, ground := Go.Ground.data }], guard := none }, { dst := some 63, op := Go.Op.call { callee := Go.Callee.builtin Go.Builtin.append, args := #[Go.Operand.tmp 59, Go.Operand.tmp 62], argTypes := #[22, 22] }, type := 22, pos := "ref.go:91", after := #[{ on := 6, ground := Go.Ground.data }, { on := 9, ground := Go.Ground.data }, { on := 6, ground := Go.Ground.chain }], guard := none }, { dst := some 3, op := Go.Op.assign (Go.Operand.tmp 63), type := 22, pos := "ref.go:91", after := #[{ on := 10, ground := Go.Ground.data }, { on := 10, ground := Go.Ground.chain }, { on := 0, ground := Go.Ground.phase }, { on := 1, ground := Go.Ground.phase }, { on := 2, ground := Go.Ground.phase }, { on := 3, ground := Go.Ground.phase }, { on := 4, ground := Go.Ground.phase }, { on := 5, ground := Go.Ground.phase }, { on := 6, ground := Go.Ground.phase }, { on := 7, ground := Go.Ground.phase }, { on := 8, ground := Go.Ground.phase }, { on := 9, ground := Go.Ground.phase }, { on := 10, ground := Go.Ground.phase }], guard := none }]
set_option maxHeartbeats 4000000 in
set_option maxRecDepth 100000 in
theorem wp_x12 {Q : Exit → Act → World → Prop} {a : Act} {w : World} (hsz : a.tmps.size = 65) {B : Nat} {ao : Option Addr} {c N n : Nat} {L : List ByteArray} {t : ByteArray} (hN : N = L.length) (hn : n ≤ N) (hl : N ≤ 10000) (h3 : a.eval (.tmp 3) = .slice ao N c) (h6 : a.eval (.tmp 6) = .int .i64 (n : Int)) (h5 : a.eval (.tmp 5) = .string t) (hO : Ot w B (.slice ao N c) L)
    (hq : ∀ c a i v w, Q (.panic c) (a.put (some i) v) w → Q (.panic c) a w)
    (h : ∀ ad a1 c1 m a2 c2 a3 c3 W, Hid (Below w.heap.size w W ∧ Ot W w.heap.size (.slice a3 (N + 1) c3) (L.take n ++ [t] ++ L.drop n)) → Q .normal ((((((((((((a.put (some 53) (.slice ao N c)).put (some 54) (.int .i64 (n : Int))).put (some 55) (.slice ao n c)).put (some 57) (.string t)).put (some 60) (.slice ao N c)).put (some 61) (.int .i64 (n : Int))).put (some 62) (.slice ad (N - n) (c - n))).put (some 56) (.slice a1 n c1)).put (some 58) (.slice (some ⟨m, 0, none⟩) 1 1)).put (some 59) (.slice a2 (n + 1) c2)).put (some 63) (.slice a3 (N + 1) c3)).put (some 3) (.slice a3 (N + 1) c3)) W) :
    (Code.region 12 ops_x12 true).wp Tryz.prog Q a w := by
  obtain ⟨hr, hc, hsp, hcap, -⟩ := hO.rs
  obtain ⟨ad, had⟩ : ∃ ad, ad = if c - n = 0 then ao else ao.map (fun x => x.add n) := ⟨_, rfl⟩
  have hNc : N ≤ c := by omega
  have htk : (L.take n).length = n := by rw [List.length_take]; omega
  have hdk : (L.drop n).length = N - n := by rw [List.length_drop]; omega
  have hrd := Rs.dropT (ad := ad) (n := n) hr (fun a ha => (hsp a ha).1) hcap had
  have hcd : ad = none → c - n = 0 := fun e => by
    rw [had] at e
    split at e
    · assumption
    · cases ao with
      | none => have := hc rfl; omega
      | some x => simp at e
  have s3 : ∀ (a1 : Option Addr) (c1 m : Nat) (a2 : Option Addr) (c2 : Nat) (W : World), Below w.heap.size w W → Ot W w.heap.size (.slice a2 (n + 1) c2) (L.take n ++ [t]) → wpAnyH Tryz.prog .any ops_x12 Q (fun _ => True) 2 #[true, true, true, true, true, true, true, true, true, true, false, false] ((((((((((a.put (some 53) (.slice ao N c)).put (some 54) (.int .i64 (n : Int))).put (some 55) (.slice ao n c)).put (some 57) (.string t)).put (some 60) (.slice ao N c)).put (some 61) (.int .i64 (n : Int))).put (some 62) (.slice ad (N - n) (c - n))).put (some 56) (.slice a1 n c1)).put (some 58) (.slice (some ⟨m, 0, none⟩) 1 1)).put (some 59) (.slice a2 (n + 1) c2)) W := by
    intro a1 c1 m a2 c2 W hW hO2
    obtain ⟨a3, c3, w3, r3, o3, b3⟩ := app_texts (c := c - n) hO2 hcd (hrd.below hW) (by rw [List.length_append, htk, hdk]; simp; omega) hW.size
    have e3 : (L.take n ++ [t] ++ L.drop n).length = N + 1 := by rw [List.length_append, List.length_append, htk, hdk]; simp; omega
    rw [hdk, e3] at r3
    rw [e3] at o3
    refine wpAnyH_ready (rs := [10]) (by kernel_rfl) (by simp) ?_
    refine AllReadyH.turn (i := 10) (d := 63) (OP := Op.call { callee := Callee.builtin Builtin.append, args := #[Operand.tmp 59, Operand.tmp 62], argTypes := #[22, 22] }) (T := 22) (v := .slice a3 (N + 1) c3) (w' := w3) rfl rfl rfl rfl (by rfl) (exec_append (v := .slice a2 (n + 1) c2) (u := .slice ad (N - n) (c - n)) (by exact eval_put_eq (by first | omega | (simp only [size_put]; omega))) (by rw [eval_put (by decide), eval_put (by decide), eval_put (by decide)]; exact eval_put_eq (by first | omega | (simp only [size_put]; omega))) r3) trivial ?_ AllReadyH.nil
    refine take_op (i := 11) (d := 3) (OP := Op.assign (Operand.tmp 63)) (T := 22) (v := .slice a3 (N + 1) c3) rfl rfl rfl rfl (by kernel_rfl) (by kernel_rfl) (by kernel_rfl) (fun c a w h => hq c a _ _ w h) (by rfl) (fun w' _ => exec_assign9 (by exact eval_put_eq (by first | omega | (simp only [size_put]; omega)))) trivial ?_
    refine wpAnyH_done (by kernel_rfl) ?_ _
    exact h ad a1 c1 m a2 c2 a3 c3 w3 (hide ⟨hW.trans b3, o3⟩)
  have s2 : ∀ (a1 : Option Addr) (c1 m : Nat) (W : World), Below w.heap.size w W → Ot W w.heap.size (.slice a1 n c1) (L.take n) → W.heap[m]? = some (.cells #[.string t] 9 (0, 0)) → wpAnyH Tryz.prog .any ops_x12 Q (fun _ => True) 3 #[true, true, true, true, true, true, false, true, true, true, false, false] (((((((((a.put (some 53) (.slice ao N c)).put (some 54) (.int .i64 (n : Int))).put (some 55) (.slice ao n c)).put (some 57) (.string t)).put (some 60) (.slice ao N c)).put (some 61) (.int .i64 (n : Int))).put (some 62) (.slice ad (N - n) (c - n))).put (some 56) (.slice a1 n c1)).put (some 58) (.slice (some ⟨m, 0, none⟩) 1 1)) W := by
    intro a1 c1 m W hW hO1 hm
    obtain ⟨a2, c2, w2, r2, o2, b2⟩ := app_texts (l := [t]) (ao := some ⟨m, 0, none⟩) (c := 1) hO1 (by simp) (mark_rs hm) (by rw [htk]; simp; omega) hW.size
    have e2 : (L.take n ++ [t]).length = n + 1 := by rw [List.length_append, htk]; rfl
    rw [e2] at r2 o2
    refine wpAnyH_ready (rs := [6]) (by kernel_rfl) (by simp) ?_
    refine AllReadyH.turn (i := 6) (d := 59) (OP := Op.call { callee := Callee.builtin Builtin.append, args := #[Operand.tmp 56, Operand.tmp 58], argTypes := #[22, 22] }) (T := 22) (v := .slice a2 (n + 1) c2) (w' := w2) rfl rfl rfl rfl (by rfl) (exec_append (v := .slice a1 n c1) (u := .slice (some ⟨m, 0, none⟩) 1 1) (by rw [eval_put (by decide)]; exact eval_put_eq (by first | omega | (simp only [size_put]; omega))) (by exact eval_put_eq (by first | omega | (simp only [size_put]; omega))) r2) trivial ?_ AllReadyH.nil
    exact s3 a1 c1 m a2 c2 w2 (hW.trans b2) o2
  have ap : ∀ W, Below w.heap.size w W → ∃ a1 c1 w1, (Builtin.append_ #[22, 22] 22 #[.slice none 0 0, .slice ao n c]).run Tryz.prog W = .ok (.slice a1 n c1) w1 ∧ Ot w1 w.heap.size (.slice a1 n c1) (L.take n) ∧ Below W.heap.size W w1 := by
    intro W hW
    obtain ⟨a1, c1, w1, r1, o1, b1⟩ := app_texts (c := c) (Ot.nil W W.heap.size) hc ((hr.takeT n).below hW) (by rw [htk]; simp; omega) (Nat.le_refl _)
    rw [List.nil_append] at o1
    rw [List.nil_append, htk] at r1
    rw [htk] at o1
    exact ⟨a1, c1, w1, r1, otLift o1 hW.size, b1⟩
  have s1a : ∀ (a1 : Option Addr) (c1 : Nat) (W : World), Below w.heap.size w W → Ot W w.heap.size (.slice a1 n c1) (L.take n) → wpAnyH Tryz.prog .any ops_x12 Q (fun _ => True) 4 #[true, true, true, true, true, false, false, true, true, true, false, false] ((((((((a.put (some 53) (.slice ao N c)).put (some 54) (.int .i64 (n : Int))).put (some 55) (.slice ao n c)).put (some 57) (.string t)).put (some 60) (.slice ao N c)).put (some 61) (.int .i64 (n : Int))).put (some 62) (.slice ad (N - n) (c - n))).put (some 56) (.slice a1 n c1)) W := by
    intro a1 c1 W hW hO1
    refine wpAnyH_ready (rs := [5]) (by kernel_rfl) (by simp) ?_
    refine AllReadyH.turn (i := 5) (d := 58) (OP := Op.buildSlice 22 1 #[(0, Operand.tmp 57)]) (T := 22) (v := .slice (some ⟨W.heap.size, 0, none⟩) 1 1) (w' := W.alloc (.cells #[.string t] 9)) rfl rfl rfl rfl (by rfl) (exec_bsT (by rw [eval_put (by decide), eval_put (by decide), eval_put (by decide), eval_put (by decide)]; exact eval_put_eq (by first | omega | (simp only [size_put]; omega)))) trivial ?_ AllReadyH.nil
    exact s2 a1 c1 W.heap.size _ (hW.alloc hW.size _) (hO1.alloc _) (heap_alloc_new W _)
  have s1c : ∀ (m : Nat) (W : World), Below w.heap.size w W → W.heap[m]? = some (.cells #[.string t] 9 (0, 0)) → wpAnyH Tryz.prog .any ops_x12 Q (fun _ => True) 4 #[true, true, true, false, true, true, false, true, true, true, false, false] ((((((((a.put (some 53) (.slice ao N c)).put (some 54) (.int .i64 (n : Int))).put (some 55) (.slice ao n c)).put (some 57) (.string t)).put (some 60) (.slice ao N c)).put (some 61) (.int .i64 (n : Int))).put (some 62) (.slice ad (N - n) (c - n))).put (some 58) (.slice (some ⟨m, 0, none⟩) 1 1)) W := by
    intro m W hW hm
    obtain ⟨a1, c1, w1, r1, o1, b1⟩ := ap W hW
    refine wpAnyH_ready (rs := [3]) (by kernel_rfl) (by simp) ?_
    refine AllReadyH.turn (i := 3) (d := 56) (OP := Op.call { callee := Callee.builtin Builtin.append, args := #[Operand.const (Value.slice none 0 0), Operand.tmp 55], argTypes := #[22, 22] }) (T := 22) (v := .slice a1 n c1) (w' := w1) rfl rfl rfl rfl (by rfl) (exec_append (v := .slice none 0 0) (u := .slice ao n c) rfl (by rw [eval_put (by decide), eval_put (by decide), eval_put (by decide), eval_put (by decide), eval_put (by decide)]; exact eval_put_eq (by first | omega | (simp only [size_put]; omega))) r1) trivial ?_ AllReadyH.nil
    rw [put_comm (show 58 ≠ 56 by decide)]
    exact s2 a1 c1 m w1 (hW.trans (b1.mono hW.size)) o1 ((b1.block _ (Array.getElem?_eq_some_iff.1 hm).1).trans hm)
  have hd : Below w.heap.size w w.drew := drew_below w
  refine wp_region_held_drew (S := fun _ => True) (by kernel_rfl) trivial (fun _ => ?_)
  refine take_op (i := 0) (d := 53) (OP := Op.move (Operand.tmp 3)) (T := 22) (v := .slice ao N c) rfl rfl rfl rfl (by kernel_rfl) (by kernel_rfl) (by kernel_rfl) (fun c a w h => hq c a _ _ w h) (by rfl) (fun w' _ => exec_move9 (by exact h3)) trivial ?_
  refine take_op (i := 1) (d := 54) (OP := Op.move (Operand.tmp 6)) (T := 3) (v := .int .i64 (n : Int)) rfl rfl rfl rfl (by kernel_rfl) (by kernel_rfl) (by kernel_rfl) (fun c a w h => hq c a _ _ w h) (by rfl) (fun w' _ => exec_move9 (by rw [eval_put (by decide)]; exact h6)) trivial ?_
  refine take_op (i := 2) (d := 55) (OP := Op.slice 22 (Operand.tmp 53) none (some (Operand.tmp 54)) none) (T := 22) (v := .slice ao n c) rfl rfl rfl rfl (by kernel_rfl) (by kernel_rfl) (by kernel_rfl) (fun c a w h => hq c a _ _ w h) (by rfl) (fun w' _ => exec_slT (u := .slice ao N c) (b := .int .i64 (n : Int)) (by rw [eval_put (by decide)]; exact eval_put_eq (by first | omega | (simp only [size_put]; omega))) (by exact eval_put_eq (by first | omega | (simp only [size_put]; omega))) (sliceT_hi (n := N) (c := c) (j := n) (by omega) (fun a ha => (hsp a ha).1) w')) trivial ?_
  refine take_op (i := 4) (d := 57) (OP := Op.move (Operand.tmp 5)) (T := 9) (v := .string t) rfl rfl rfl rfl (by kernel_rfl) (by kernel_rfl) (by kernel_rfl) (fun c a w h => hq c a _ _ w h) (by rfl) (fun w' _ => exec_move9 (by rw [eval_put (by decide), eval_put (by decide), eval_put (by decide)]; exact h5)) trivial ?_
  refine take_op (i := 7) (d := 60) (OP := Op.move (Operand.tmp 3)) (T := 22) (v := .slice ao N c) rfl rfl rfl rfl (by kernel_rfl) (by kernel_rfl) (by kernel_rfl) (fun c a w h => hq c a _ _ w h) (by rfl) (fun w' _ => exec_move9 (by rw [eval_put (by decide), eval_put (by decide), eval_put (by decide), eval_put (by decide)]; exact h3)) trivial ?_
  refine take_op (i := 8) (d := 61) (OP := Op.move (Operand.tmp 6)) (T := 3) (v := .int .i64 (n : Int)) rfl rfl rfl rfl (by kernel_rfl) (by kernel_rfl) (by kernel_rfl) (fun c a w h => hq c a _ _ w h) (by rfl) (fun w' _ => exec_move9 (by rw [eval_put (by decide), eval_put (by decide), eval_put (by decide), eval_put (by decide), eval_put (by decide)]; exact h6)) trivial ?_
  refine take_op (i := 9) (d := 62) (OP := Op.slice 22 (Operand.tmp 60) (some (Operand.tmp 61)) none none) (T := 22) (v := .slice ad (N - n) (c - n)) rfl rfl rfl rfl (by kernel_rfl) (by kernel_rfl) (by kernel_rfl) (fun c a w h => hq c a _ _ w h) (by rfl) (fun w' _ => exec_slL (u := .slice ao N c) (b := .int .i64 (n : Int)) (by rw [eval_put (by decide)]; exact eval_put_eq (by first | omega | (simp only [size_put]; omega))) (by exact eval_put_eq (by first | omega | (simp only [size_put]; omega))) (by rw [had]; exact sliceT_lo hn hNc w')) trivial ?_
  obtain ⟨a1, c1, w1, r1, o1, b1⟩ := ap w.drew hd
  refine wpAnyH_ready (rs := [3, 5]) (by kernel_rfl) (by simp) ?_
  refine AllReadyH.turn (i := 3) (d := 56) (OP := Op.call { callee := Callee.builtin Builtin.append, args := #[Operand.const (Value.slice none 0 0), Operand.tmp 55], argTypes := #[22, 22] }) (T := 22) (v := .slice a1 n c1) (w' := w1) rfl rfl rfl rfl (by rfl) (exec_append (v := .slice none 0 0) (u := .slice ao n c) rfl (by rw [eval_put (by decide), eval_put (by decide), eval_put (by decide), eval_put (by decide)]; exact eval_put_eq (by first | omega | (simp only [size_put]; omega))) r1) trivial ?_ ?_
  · exact s1a a1 c1 w1 (hd.trans (b1.mono hd.size)) o1
  refine AllReadyH.turn (i := 5) (d := 58) (OP := Op.buildSlice 22 1 #[(0, Operand.tmp 57)]) (T := 22) (v := .slice (some ⟨w.drew.heap.size, 0, none⟩) 1 1) (w' := w.drew.alloc (.cells #[.string t] 9)) rfl rfl rfl rfl (by rfl) (exec_bsT (by rw [eval_put (by decide), eval_put (by decide), eval_put (by decide)]; exact eval_put_eq (by first | omega | (simp only [size_put]; omega)))) trivial ?_ AllReadyH.nil
  exact s1c w.drew.heap.size _ (hd.alloc hd.size _) (heap_alloc_new w.drew _)
end Go.Proofs.YtkdgageljgfgoaaGreatDoor
namespace Go.Proofs.YtkdgageljgfgoaaGreatDoor
open Go.RowKit Go.Shelf
set_option linter.unusedSimpArgs false
attribute [local go_sem] Oper.semAt_some

theorem cmpB_eq_iff (a b : ByteArray) : cmpB a b = 0 ↔ a = b := ⟨fun h => ord_B.eq a b h, fun h => by subst h; have := ord_B.anti a a; omega⟩
/-- Where a text comes in: behind those that are ahead of it. -/
theorem insU_at (t : ByteArray) : ∀ (L : List ByteArray) (n : Nat), n ≤ L.length → (∀ j y, j < n → L[j]? = some y → cmpB y t = -1) → (∀ y, L[n]? = some y → ¬ cmpB y t = -1) → Rise.insU cmpB t L = if L[n]? = some t then L else L.take n ++ [t] ++ L.drop n
  | [], n, hn, _, _ => by
    have : n = 0 := by simpa using hn
    subst this
    simp [Rise.insU]
  | y :: L, 0, _, _, h => by
    have hy := h y rfl
    rw [Rise.insU, if_neg hy]
    by_cases e : y = t
    · subst e
      rw [if_pos ((cmpB_eq_iff y y).2 rfl)]
      simp
    · rw [if_neg (fun hc => e ((cmpB_eq_iff y t).1 hc))]
      simp [e]
  | y :: L, n + 1, hn, h1, h2 => by
    rw [Rise.insU, if_pos (h1 0 y (by omega) rfl), insU_at t L n (by simpa using hn) (fun j z hj hz => h1 (j + 1) z (by omega) (by simpa using hz)) (fun z hz => h2 z (by simpa using hz))]
    simp only [List.getElem?_cons_succ, List.take_succ_cons, List.drop_succ_cons, List.cons_append]
    split <;> rfl
theorem showL_next {k : Int} {l : List El} {i : Nat} {x : El} (h : l[i]? = some x) : showL k (l.take (i + 1)) = if k = 2 then Rise.insU cmpB x.2 (showL k (l.take i)) else showL k (l.take i) ++ [x.2] := by
  have e : l.take (i + 1) = l.take i ++ [x] := by rw [List.take_add_one, h]; rfl
  unfold showL
  rw [e]
  split
  · unfold setL
    rw [List.map_append, List.foldl_append]
    rfl
  · simp
theorem insU_len (t : ByteArray) : ∀ L : List ByteArray, (Rise.insU cmpB t L).length ≤ L.length + 1
  | [] => by simp [Rise.insU]
  | y :: L => by
    rw [Rise.insU]
    have := insU_len t L
    split
    · simp; omega
    · split <;> simp
theorem showL_len (k : Int) (l : List El) : ∀ i, i ≤ l.length → (showL k (l.take i)).length ≤ i
  | 0, _ => by unfold showL setL; split <;> simp
  | i + 1, hi => by
    rw [showL_next (List.getElem?_eq_getElem (by omega))]
    have := showL_len k l i (by omega)
    split
    · have := insU_len (l[i]).2 (showL k (l.take i)); omega
    · simp; omega
theorem less_B (a b : ByteArray) : Op.bytesLess a.toList b.toList = decide (cmpB a b = -1) := by
  rw [ByteArray.toList_eq, ByteArray.toList_eq, less_cb]; rfl
/-- What a value shows, handed back. -/
def TxsE (w : World) (L : List ByteArray) (e : Ending) (w' : World) : Prop := ∃ a' c', e = .returned (.slice a' L.length c') ∧ Rs w' a' L ∧ Below w.heap.size w w'
/-- Between the rounds. -/
def TxI (w wr : World) (ao : Option Addr) (c : Nat) (p q : List ByteArray) : Prop := p = q ∧ Below w.heap.size w wr ∧ Ot wr w.heap.size (.slice ao p.length c) p

set_option maxHeartbeats 8000000 in
set_option maxRecDepth 100000 in
theorem refTexts_any {w : World} (k n : Int) {ao : Option Addr} {c : Nat} {l : List El} (h : Re w ao l) (hl : l.length ≤ 1000) : Calls Tryz.prog 32 #[vv k n ao l.length c] w (TxsE w (showL k l)) := by
  obtain ⟨N, hN⟩ : ∃ N, N = l.length := ⟨_, rfl⟩
  obtain ⟨w1, hw1⟩ : ∃ w1, w1 = w.alloc (.cells #[.int .i64 k, .int .i64 n, .slice ao N c] 46) := ⟨_, rfl⟩
  have b1 : Below w.heap.size w w1 := by rw [hw1]; exact (Below.refl _ w).alloc (Nat.le_refl _) _
  have m0 := heap_alloc_new w (.cells #[.int .i64 k, .int .i64 n, .slice ao N c] 46)
  rw [← hw1] at m0
  obtain ⟨X, hX⟩ : ∃ X, X = w.heap.size := ⟨_, rfl⟩
  rw [← hX] at m0
  have up : Hid (∀ W, Below w1.heap.size w1 W → W.cell? ⟨X, 0, none⟩ = some (.int .i64 k) ∧ W.cell? ⟨X, 2, none⟩ = some (.slice ao N c)) := hide (fun W hW => by
    have q := (hW.block _ (Array.getElem?_eq_some_iff.1 m0).1).trans m0
    exact ⟨(cell_of_row _ _ 0 _ 46 (0, 0) q).trans rfl, (cell_of_row _ _ 2 _ 46 (0, 0) q).trans rfl⟩)
  have hre := h.below b1
  rw [← hN] at hl ⊢
  have H := hide (And.intro hw1 (And.intro hX (And.intro b1 (And.intro hN hre))))
  clear hw1 hX b1 m0 h hre hN
  go_enter Tryz.func32, Tryz.ntmps32
  go_upto_region 1 with fail
  rw [← H.out.1, ← H.out.2.1]
  go_wp2
  go_loopw [3, 4] (fun s iv wr => ∃ (i : Nat) (p : List ByteArray) (ao' : Option Addr) (c' : Nat), i ≤ N ∧ p.length ≤ i ∧ iv = .int .i64 i ∧ s = .slice ao' p.length c' ∧ Hid (TxI w1 wr ao' c' p (showL k (l.take i)))) (fun _ iv _ => N - (intOf iv).toNat)
  case atStart => exact ⟨0, [], none, 0, Nat.zero_le _, by simp, rfl, rfl, hide ⟨by unfold showL setL; split <;> simp, Below.refl _ _, Ot.nil _ _⟩⟩
  case round =>
    obtain ⟨i, p, ao', c', hi, hp, rfl, rfl, hP⟩ := hrel
    obtain ⟨x0, x2⟩ := up.out wr hP.out.2.1
    by_cases hlt : i < N
    · have d1 : decide (i < N) = true := by simpa using hlt
      have d1' : (i : Int) < (N : Int) := by omega
      obtain ⟨x, hx⟩ : ∃ x, l[i]? = some x := ⟨_, List.getElem?_eq_getElem (by rw [← H.out.2.2.2.1]; exact hlt)⟩
      obtain ⟨bk, off, hao, q0, q1, q2, q3, q4, q5⟩ := (H.out.2.2.2.2.below hP.out.2.1).cells hx
      have hnx := showL_next (k := k) hx
      obtain ⟨t, ht⟩ : ∃ t, t = x.2 := ⟨_, rfl⟩
      rw [← ht] at q5 hnx
      subst hao
      have HX := hide hnx
      clear hnx hx q0 q1 q2 q3 q4 ht
      by_cases hk2 : k = 2
      · subst hk2
        obtain ⟨M, hM⟩ : ∃ M, M = p.length := ⟨_, rfl⟩
        have HO : Hid (Ot wr w1.heap.size (.slice ao' M c') p) := hide (by rw [hM]; exact hP.out.2.2)
        obtain ⟨wo, hwo⟩ : ∃ wo, wo = wr := ⟨_, rfl⟩
        have hLen : ∀ m, m ≤ M → (p.take m ++ [t] ++ p.drop m).length = M + 1 := fun m hm => by simp; omega
        replace hLen := hide hLen
        rw [← hM] at hp ⊢
        have HM := hide hM
        clear hM
        rw [← hwo] at HO hP x0 x2 q5 ⊢
        clear hwo
        go_upto_block 2 with fail
        go_wp2_with fail
        go_loopw [6] (fun nv wq => ∃ m : Nat, m ≤ M ∧ nv = .int .i64 m ∧ Hid (∀ j y, j < m → p[j]? = some y → cmpB y t = -1) ∧ wq = wo) (fun nv _ => M - (intOf nv).toNat)
        case atStart => exact ⟨0, Nat.zero_le _, rfl, hide (fun j y hj => by omega), rfl⟩
        case round =>
        obtain ⟨m, hm, rfl, hA, hwq⟩ := hrel
        obtain rfl : wo = wr := hwq.symm
        clear hwq
        by_cases hmM : m < M
        · have e1 : decide (m < M) = true := by simpa using hmM
          have e2 : (m : Int) < (M : Int) := by omega
          obtain ⟨y, hy⟩ : ∃ y, p[m]? = some y := ⟨_, List.getElem?_eq_getElem (by rw [← HM.out]; exact hmM)⟩
          obtain ⟨g, hg⟩ : ∃ g, ao' = some ⟨g, 0, none⟩ := by
            rcases HO.out.shape with ⟨ea, eb⟩ | ⟨g, cap, ea, _⟩
            · rw [eb] at hy; simp at hy
            · simp only [Value.slice.injEq] at ea; exact ⟨g, ea.1⟩
          subst hg
          have cy := HO.out.cells hy
          have hls := less_B y t
          have HY := hide hy
          clear hy
          by_cases hv : cmpB y t = -1
          · rw [show decide (cmpB y t = -1) = true by simpa using hv] at hls
            have HV := hide hv
            clear hv
            go_wp2_with fail
            go_roundw
            case rel => exact ⟨m + 1, by omega, by go_num, hide (fun j z hj hz => by
              by_cases hjm : j = m
              · subst hjm; rw [HY.out] at hz; cases hz; exact HV.out
              · exact hA.out j z (by omega) hz), by first | rfl | trivial⟩
            case measure => simp [intOf]; omega
          · rw [show decide (cmpB y t = -1) = false by simpa using hv] at hls
            have HV := hide hv
            clear hv
            have nM : ¬ (m : Int) = (M : Int) := by omega
            have eM : decide ((m : Int) = (M : Int)) = false := by simpa using nM
            have bM : ((m : Int) == (M : Int)) = false := by simpa using nM
            have nM' : ¬ m = M := by omega
            by_cases hyt : y = t
            · subst hyt
              have he := insU_at y p m (by rw [← HM.out]; omega) hA.out (fun z hz => by rw [HY.out] at hz; cases hz; exact HV.out)
              rw [if_pos HY.out] at he
              have HEq := hide he
              clear he
              have bq : (y.toList == y.toList) = true := by simp
              go_wp2_with fail
              go_roundw
              case rel => exact ⟨i + 1, p, some ⟨g, 0, none⟩, c', by omega, by rw [← HM.out]; omega, by go_num, by rw [← HM.out], hide ⟨by rw [HX.out, if_pos trivial, ← hP.out.1, HEq.out], hP.out.2.1, hP.out.2.2⟩⟩
              case measure => simp [intOf]; omega
            · have bq : (y.toList == t.toList) = false := by rw [Bool.eq_false_iff, Ne, bytes_same]; exact hyt
              have he := insU_at t p m (by rw [← HM.out]; omega) hA.out (fun z hz => by rw [HY.out] at hz; cases hz; exact HV.out)
              rw [if_neg (fun hc => by rw [HY.out] at hc; cases hc; exact hyt rfl)] at he
              have HEq := hide he
              have hLen' := hide (hLen.out m (by omega))
              clear he hyt
              go_upto_region 12 with fail
              refine wp_x12 (B := w1.heap.size) (L := p) (n := m) rfl HM.out (by omega) (by omega) rfl rfl rfl HO.out (fun _ _ _ _ _ h => h) ?_
              intro ad a1 c1 mm a2 c2 a3 c3 W HF
              simp only [Act.put, List.setIfInBounds_toArray, List.set_cons_zero, List.set_cons_succ]
              go_wp2
              go_roundw
              case rel => exact ⟨i + 1, p.take m ++ [t] ++ p.drop m, a3, c3, by omega, by rw [hLen'.out]; omega, by go_num, by rw [hLen'.out], hide ⟨by rw [HX.out, if_pos trivial, ← hP.out.1]; exact HEq.out.symm, nextB hP.out.2.1 HF.out.1, by rw [hLen'.out]; exact otLift HF.out.2 hP.out.2.1.size⟩⟩
              case measure => simp [intOf]; omega
        · obtain rfl : M = m := by omega
          have e1 : decide (M < M) = false := by simp
          have he := insU_at t p M (by rw [← HM.out]; exact Nat.le_refl _) hA.out (fun z hz => by rw [HM.out] at hz; simp at hz)
          rw [if_neg (fun hc => by rw [HM.out] at hc; simp at hc)] at he
          have HEq := hide he
          have hLen' := hide (hLen.out M (by omega))
          clear he
          go_upto_region 12 with fail
          refine wp_x12 (B := w1.heap.size) (L := p) (n := M) rfl HM.out (by omega) (by omega) rfl rfl rfl HO.out (fun _ _ _ _ _ h => h) ?_
          intro ad a1 c1 mm a2 c2 a3 c3 W HF
          simp only [Act.put, List.setIfInBounds_toArray, List.set_cons_zero, List.set_cons_succ]
          go_wp2
          go_roundw
          case rel => exact ⟨i + 1, p.take M ++ [t] ++ p.drop M, a3, c3, by omega, by rw [hLen'.out]; omega, by go_num, by rw [hLen'.out], hide ⟨by rw [HX.out, if_pos trivial, ← hP.out.1]; exact HEq.out.symm, nextB hP.out.2.1 HF.out.1, by rw [hLen'.out]; exact otLift HF.out.2 hP.out.2.1.size⟩⟩
          case measure => simp [intOf]; omega
      · have dk : decide (k = 2) = false := by simpa using hk2
        have bk2 : (k == 2) = false := by simpa using hk2
        have bk3 : (k != 2) = true := by simpa using hk2
        have HP2 := hide (And.intro hP.out.2.1 hP.out.2.2)
        go_wp2_with (refine pushS t rfl HP2 (Nat.le_refl _) (by omega) rfl _ _ rfl rfl rfl ?_; intro a4 c4' w4 H4)
        go_roundw
        case rel => exact ⟨i + 1, p ++ [t], a4, c4', by omega, by rw [List.length_append]; simp; omega, by go_num, by rw [List.length_append]; rfl, hide ⟨by rw [HX.out, if_neg hk2, hP.out.1], H4.out.1, by rw [List.length_append]; exact H4.out.2⟩⟩
        case measure => simp [intOf]; omega
    · obtain rfl : N = i := by omega
      have d1 : decide (N < N) = false := by simp
      have hE : p = showL k l := by have := hP.out.1; rwa [H.out.2.2.2.1, List.take_length] at this
      have HE := hide hE
      clear hE
      go_wp2
      go_ret
      rw [← HE.out]
      exact ⟨ao', c', rfl, (hP.out.2.2).rs.1, nextB H.out.2.2.1 hP.out.2.1⟩
end Go.Proofs.YtkdgageljgfgoaaGreatDoor
namespace Go.Proofs.YtkdgageljgfgoaaGreatDoor
open Go.RowKit Go.Shelf
set_option linter.unusedSimpArgs false
attribute [local go_sem] Oper.semAt_some

/-- Is an element taken away? -/
def goneB (d : Int) (t : ByteArray) (i : Nat) (x : El) : Bool := (decide (d = 3) && hasT t x) || decide (d = 4) || (decide (d = 6) && decide (i = 0))
/-- What is left of the first i. -/
def keptL (d : Int) (t : ByteArray) (l : List El) : Nat → List El
  | 0 => []
  | i + 1 => match l[i]? with
    | some x => keptL d t l i ++ (if goneB d t i x = true then [] else [x])
    | none => keptL d t l i
theorem kept_next {d : Int} {t : ByteArray} {l : List El} {i : Nat} {x : El} (h : l[i]? = some x) : keptL d t l (i + 1) = keptL d t l i ++ (if goneB d t i x = true then [] else [x]) := by rw [keptL, h]
theorem kept_len (d : Int) (t : ByteArray) (l : List El) : ∀ i, (keptL d t l i).length ≤ i
  | 0 => by simp [keptL]
  | i + 1 => by
    have := kept_len d t l i
    rw [keptL]
    split
    · rw [List.length_append]; split <;> simp <;> omega
    · omega
theorem take_nextE {l : List El} {i : Nat} {x : El} (h : l[i]? = some x) : l.take (i + 1) = l.take i ++ [x] := by rw [List.take_add_one, h]; rfl
theorem take_noneE {l : List El} {i : Nat} (h : l[i]? = none) : l.take (i + 1) = l.take i := by rw [List.take_add_one, h]; simp
theorem kept_all {d : Int} {t : ByteArray} {l : List El} (h3 : d ≠ 3) (h4 : d ≠ 4) (h6 : d ≠ 6) : ∀ i, keptL d t l i = l.take i
  | 0 => by simp [keptL]
  | i + 1 => by
    cases hx : l[i]? with
    | none => rw [take_noneE hx, keptL, hx]; exact kept_all h3 h4 h6 i
    | some x => rw [take_nextE hx, kept_next hx, kept_all h3 h4 h6 i]; simp [goneB, h3, h4, h6]
theorem kept_rem {t : ByteArray} {l : List El} : ∀ i, keptL 3 t l i = keepL t (l.take i)
  | 0 => by simp [keptL, keepL]
  | i + 1 => by
    cases hx : l[i]? with
    | none => rw [take_noneE hx, keptL, hx]; exact kept_rem i
    | some x => rw [keepL_take hx, kept_next hx, kept_rem i]; simp [goneB]
theorem kept_none {t : ByteArray} {l : List El} : ∀ i, keptL 4 t l i = []
  | 0 => by simp [keptL]
  | i + 1 => by
    rw [keptL]
    split
    · rw [kept_none i]; simp [goneB]
    · exact kept_none i
theorem kept_pop {t : ByteArray} {l : List El} : ∀ i, keptL 6 t l i = (l.take i).drop 1
  | 0 => by simp [keptL]
  | i + 1 => by
    cases hx : l[i]? with
    | none => rw [take_noneE hx, keptL, hx]; exact kept_pop i
    | some x =>
      rw [take_nextE hx, kept_next hx, kept_pop i]
      by_cases hi : i = 0
      · subst hi; simp [goneB]
      · have hl : 0 < (l.take i).length := by
          have := (List.getElem?_eq_some_iff.1 hx).1
          rw [List.length_take]; omega
        have e : (l.take i).drop 1 ++ [x] = (l.take i ++ [x]).drop 1 := by rw [List.drop_append_of_le_length (by omega)]
        rw [← e]; simp [goneB, hi]
theorem kept_change (d : Int) (l : List El) (s : St) (t : ByteArray) : keptL d t l l.length ++ (if bringsD d = true then [(s, t)] else []) = changeL l d (s, t) := by
  unfold changeL
  by_cases h4 : d = 4
  · subst h4; rw [kept_none]; simp [bringsD]
  by_cases h3 : d = 3
  · subst h3; rw [kept_rem, List.take_length]; simp [bringsD]
  by_cases h6 : d = 6
  · subst h6; rw [kept_pop, List.take_length]; simp [bringsD]
  rw [kept_all h3 h4 h6, List.take_length, if_neg h4]
  by_cases h2 : d = 2 ∨ d = 5 ∨ d = 7
  · rw [if_pos h2]
    rcases h2 with rfl | rfl | rfl <;> simp [bringsD]
  · rw [if_neg h2, if_neg h3, if_neg h6]
    simp only [not_or] at h2
    simp [bringsD, h2.1, h2.2.1, h2.2.2, h4]

/-- Between the rounds of Apply's loop: what is made lies in the box BO. -/
def ApI (wc : World) (BO : Nat) (k n : Int) (q : List El) (wr : World) (a' : Option Addr) (c' : Nat) : Prop := Below BO wc wr ∧ BO + 1 ≤ wr.heap.size ∧ wr.heap[BO]? = some (.cells #[.int .i64 k, .int .i64 n, .slice a' q.length c'] 46 (0, 0)) ∧ Oe wr (BO + 1) (.slice a' q.length c') q
theorem ApI.below {wc : World} {BO : Nat} {k n : Int} {q : List El} {wr W : World} {a' : Option Addr} {c' : Nat} (h : ApI wc BO k n q wr a' c') (hb : Below wr.heap.size wr W) : ApI wc BO k n q W a' c' :=
  ⟨h.1.trans (hb.mono (by have := h.2.1; omega)), Nat.le_trans h.2.1 hb.size, (hb.block _ (Array.getElem?_eq_some_iff.1 h.2.2.1).1).trans h.2.2.1, h.2.2.2.below hb⟩

theorem ApI.own_ne {BO : Nat} {q : List El} {wr : World} {a' : Option Addr} {c' m : Nat} (hO : Oe wr (BO + 1) (.slice a' m c') q) : ∀ k, (Value.slice a' m c').ownBlock = some k → ¬ k = BO := fun k hk e => by
  obtain ⟨a2, c2, ee, _, _, _, h4⟩ := hO.form
  cases a' with
  | none => simp [Value.ownBlock] at hk
  | some a =>
    simp only [Value.ownBlock, Option.some.injEq] at hk
    simp only [Value.slice.injEq] at ee
    have := (h4 a ee.1.symm).1
    omega
theorem ApI.push {wc : World} {BO : Nat} {k n : Int} {q : List El} {we w4 : World} {a' a4 : Option Addr} {c' c4 : Nat} {x : El} (h : ApI wc BO k n q we a' c') (hb : Below (BO + 1) we w4) (hO : Oe w4 (BO + 1) (.slice a4 (q.length + 1) c4) (q ++ [x])) (hr : w4.heap[BO]? = some (.cells #[.int .i64 k, .int .i64 n, .slice a' q.length c'] 46 (0, 0))) : ApI wc BO k n (q ++ [x]) (w4.setCell ⟨BO, 2, none⟩ (.slice a4 (q.length + 1) c4)) a4 c4 := by
  obtain ⟨s1, s2⟩ := set_one (i := 2) (.slice a4 (q.length + 1) c4) hr
  have e : (q ++ [x]).length = q.length + 1 := by rw [List.length_append]; rfl
  have hb2 : Below BO wc w4 := h.1.trans (hb.mono (by omega))
  refine ⟨Below.only hb2 s2 (by have := hb.size; have := h.2.1; omega) (fun j e => by omega), ?_, ?_, ?_⟩
  · have := hb.size; have := h.2.1; have := s2.size; omega
  · rw [e]; exact s1
  · rw [e]; exact hO.only s2 (ApI.own_ne hO)
theorem ApI.number {wc : World} {BO : Nat} {k n : Int} {q : List El} {wr : World} {a' : Option Addr} {c' : Nat} (h : ApI wc BO k n q wr a' c') (m : Int) : ApI wc BO k m q (wr.setCell ⟨BO, 1, none⟩ (.int .i64 m)) a' c' := by
  obtain ⟨s1, s2⟩ := set_one (i := 1) (.int .i64 m) h.2.2.1
  refine ⟨Below.only h.1 s2 (by have := h.2.1; omega) (fun j e => by omega), ?_, s1, h.2.2.2.only s2 (ApI.own_ne h.2.2.2)⟩
  have := h.2.1; have := s2.size; omega

set_option maxHeartbeats 16000000 in
set_option maxRecDepth 100000 in
theorem refApply_any {w : World} (k n : Int) {ao : Option Addr} {c : Nat} {l : List El} (s : St) {pa : Option Addr} {pc : Nat} {p : List ByteArray} (ok : Int) (os : ByteArray) (d on : Int) (tx : ByteArray) (h : Re w ao l) (hl : l.length ≤ 1000) (hsz : ∀ x ∈ l, x.1.2.2.1.size ≤ 9223372036854775807) (hss : s.2.2.1.size ≤ 9223372036854775807) (hp : Rs w pa p) :
    Calls Tryz.prog 27 #[vv k n ao l.length c, svT s, opv pa p.length pc ok os d on tx] w (ValE w (applyV k n l s p ok os d on tx)) := by
  obtain ⟨N, hN⟩ : ∃ N, N = l.length := ⟨_, rfl⟩
  obtain ⟨NP, hNP⟩ : ∃ N, N = p.length := ⟨_, rfl⟩
  have hap : applyV k n l s p ok os d on tx = if checkE p ok os d on tx = 2 ∨ valB k n l = false ∨ stV s = false ∨ behindB s l = false then (0, 0, [], 2) else if checkE p ok os d on tx = 7 ∨ ok ≠ k then (0, 0, [], 7) else (k, wrap64 (n + on), changeL l d (s, tx), 0) := rfl
  rw [hap]
  clear hap
  have hck := checkE_cases p ok os d on tx
  have k62 : ∀ W, Calls Tryz.prog 62 #[svT s] W fun e w' => e = .returned (.bool (stV s)) ∧ Below W.heap.size W w' := fun W => refStamp_any s.1 s.2.1 s.2.2.1 s.2.2.2.1 s.2.2.2.2 W hss
  have hbh : ∀ y : El, l.getLast? = some y → behindB s l = decide (cmpT y.1 s < 0) := fun y hy => by unfold behindB; rw [hy]
  have hsb : stampedB p ok os d on tx = ((checkE p ok os d on tx == 0) && bringsD d) := rfl
  have k63s : ∀ (y : El), y ∈ l → ∀ W, Calls Tryz.prog 63 #[svT y.1, svT s] W fun e w' => e = .returned (.int .i64 (cmpT y.1 s)) ∧ Below W.heap.size W w' := fun y hy W => (refCmpS_grow y.1.1 y.1.2.1 y.1.2.2.1 y.1.2.2.2.1 y.1.2.2.2.2 s.1 s.2.1 s.2.2.1 s.2.2.2.1 s.2.2.2.2 W (hsz y hy)).mono fun e w' hh => ⟨by rw [show cmpT y.1 s = cmpS y.1.1 y.1.2.1 y.1.2.2.1 y.1.2.2.2.1 y.1.2.2.2.2 s.1 s.2.1 s.2.2.1 s.2.2.2.1 s.2.2.2.2 from (cmpS_eq _ _ _ _ _ _ _ _ _ _).symm, cmp_lexS]; exact hh.1, hh.2.low⟩
  obtain ⟨w1, hw1⟩ : ∃ w1, w1 = (((w.alloc (.cells #[.int .i64 k, .int .i64 n, .slice ao N c] 46)).alloc (.cells #[.int .i64 s.1, .int .i64 s.2.1, .string s.2.2.1, .int .i64 s.2.2.2.1, .int .i64 s.2.2.2.2] 52)).alloc (.cells #[.slice pa NP pc, .int .i64 ok, .string os, .int .i64 d, .int .i64 on, .string tx] 26)).alloc (.cells #[.int .i64 0, .int .i64 0, .slice none 0 0] 46) := ⟨_, rfl⟩
  obtain ⟨m0, m1, m2, m3, b1⟩ := new4 w (.cells #[.int .i64 k, .int .i64 n, .slice ao N c] 46) (.cells #[.int .i64 s.1, .int .i64 s.2.1, .string s.2.2.1, .int .i64 s.2.2.2.1, .int .i64 s.2.2.2.2] 52) (.cells #[.slice pa NP pc, .int .i64 ok, .string os, .int .i64 d, .int .i64 on, .string tx] 26) (.cells #[.int .i64 0, .int .i64 0, .slice none 0 0] 46)
  rw [← hw1] at m0 m1 m2 m3 b1
  have hs1 : w1.heap.size = w.heap.size + 4 := by rw [hw1]; simp
  have k30 : ∀ W, Below w1.heap.size w1 W → Calls Tryz.prog 30 #[vv k n ao N c] W fun e w' => e = .returned (.bool (valB k n l)) ∧ Below W.heap.size W w' := fun W hW => by rw [hN]; exact refValue_any k n ((h.below b1).below hW) (by omega) hsz
  have k14 : ∀ W, Below w1.heap.size w1 W → Calls Tryz.prog 14 #[opv pa NP pc ok os d on tx] W fun e w' => e = .returned (.int .i64 (checkE p ok os d on tx)) ∧ Below W.heap.size W w' := fun W hW => by rw [hNP]; exact refCheck_any ok os d on tx ((hp.below b1).below hW)
  have k16 : ∀ W, Below w1.heap.size w1 W → Calls Tryz.prog 16 #[opv pa NP pc ok os d on tx] W fun e w' => e = .returned (.bool (stampedB p ok os d on tx)) ∧ Below W.heap.size W w' := fun W hW => by rw [hNP]; exact refStamped_any ok os d on tx ((hp.below b1).below hW)
  have hkc := kept_change d l s tx
  have hre := h.below b1
  rw [← hN] at hl ⊢
  rw [← hNP]
  generalize checkE p ok os d on tx = CE at *
  generalize stampedB p ok os d on tx = SB at *
  obtain ⟨V1, hV1⟩ : ∃ V, V = valB k n l := ⟨_, rfl⟩
  obtain ⟨V2, hV2⟩ : ∃ V, V = stV s := ⟨_, rfl⟩
  obtain ⟨V4, hV4⟩ : ∃ V, V = behindB s l := ⟨_, rfl⟩
  rw [← hV1, ← hV2, ← hV4]
  simp only [← hV1] at k30
  simp only [← hV2] at k62
  simp only [← hV4] at hbh
  obtain ⟨CL, hCL⟩ : ∃ C, C = changeL l d (s, tx) := ⟨_, rfl⟩
  rw [← hCL] at hkc ⊢
  have hV40 : l = [] → V4 = true := fun e => by rw [hV4, e]; rfl
  obtain ⟨B3, hB3⟩ : ∃ B, B = w.heap.size := ⟨_, rfl⟩
  obtain ⟨B4, hB4⟩ : ∃ B, B = w.heap.size + 1 := ⟨_, rfl⟩
  obtain ⟨B5, hB5⟩ : ∃ B, B = w.heap.size + 1 + 1 := ⟨_, rfl⟩
  obtain ⟨B6, hB6⟩ : ∃ B, B = w.heap.size + 1 + 1 + 1 := ⟨_, rfl⟩
  rw [← hB3] at m0
  rw [← hB4] at m1
  rw [show w.heap.size + 2 = B5 by omega] at m2
  rw [show w.heap.size + 3 = B6 by omega] at m3
  obtain ⟨R, hR⟩ : ∃ R, R = (if CE = 2 ∨ V1 = false ∨ V2 = false ∨ V4 = false then ((0, 0, [], 2) : Int × Int × List El × Int) else if CE = 7 ∨ ok ≠ k then (0, 0, [], 7) else (k, wrap64 (n + on), CL, 0)) := ⟨_, rfl⟩
  rw [← hR]
  have HR := hide hR
  clear hV1 hV2 hV4 hCL hR
  obtain ⟨g, r, l0, n0, i0⟩ := s
  dsimp only at hw1 m1 hss
  have up : ∀ W, Below w1.heap.size w1 W → W.cell? ⟨B3, 0, none⟩ = some (.int .i64 k) ∧ W.cell? ⟨B3, 1, none⟩ = some (.int .i64 n) ∧ W.cell? ⟨B3, 2, none⟩ = some (.slice ao N c) ∧ W.cell? ⟨B4, 0, none⟩ = some (.int .i64 g) ∧ W.cell? ⟨B4, 1, none⟩ = some (.int .i64 r) ∧ W.cell? ⟨B4, 2, none⟩ = some (.string l0) ∧ W.cell? ⟨B4, 3, none⟩ = some (.int .i64 n0) ∧ W.cell? ⟨B4, 4, none⟩ = some (.int .i64 i0) ∧ W.cell? ⟨B5, 0, none⟩ = some (.slice pa NP pc) ∧ W.cell? ⟨B5, 1, none⟩ = some (.int .i64 ok) ∧ W.cell? ⟨B5, 2, none⟩ = some (.string os) ∧ W.cell? ⟨B5, 3, none⟩ = some (.int .i64 d) ∧ W.cell? ⟨B5, 4, none⟩ = some (.int .i64 on) ∧ W.cell? ⟨B5, 5, none⟩ = some (.string tx) ∧ W.heap[B6]? = some (.cells #[.int .i64 0, .int .i64 0, .slice none 0 0] 46 (0, 0)) := fun W hW => by
    have qB3 := (hW.block _ (Array.getElem?_eq_some_iff.1 m0).1).trans m0
    have qB4 := (hW.block _ (Array.getElem?_eq_some_iff.1 m1).1).trans m1
    have qB5 := (hW.block _ (Array.getElem?_eq_some_iff.1 m2).1).trans m2
    exact ⟨(cell_of_row _ _ 0 _ 46 (0, 0) qB3).trans rfl, (cell_of_row _ _ 1 _ 46 (0, 0) qB3).trans rfl, (cell_of_row _ _ 2 _ 46 (0, 0) qB3).trans rfl, (cell_of_row _ _ 0 _ 52 (0, 0) qB4).trans rfl, (cell_of_row _ _ 1 _ 52 (0, 0) qB4).trans rfl, (cell_of_row _ _ 2 _ 52 (0, 0) qB4).trans rfl, (cell_of_row _ _ 3 _ 52 (0, 0) qB4).trans rfl, (cell_of_row _ _ 4 _ 52 (0, 0) qB4).trans rfl, (cell_of_row _ _ 0 _ 26 (0, 0) qB5).trans rfl, (cell_of_row _ _ 1 _ 26 (0, 0) qB5).trans rfl, (cell_of_row _ _ 2 _ 26 (0, 0) qB5).trans rfl, (cell_of_row _ _ 3 _ 26 (0, 0) qB5).trans rfl, (cell_of_row _ _ 4 _ 26 (0, 0) qB5).trans rfl, (cell_of_row _ _ 5 _ 26 (0, 0) qB5).trans rfl, (hW.block _ (Array.getElem?_eq_some_iff.1 m3).1).trans m3⟩
  have hret : Hid (∀ (W W' : World), Below w1.heap.size w1 W → Only (fun j => j = B6) W W' → Below w.heap.size w W') := hide (fun W W' hW hO => by
    have hb := nextB b1 hW
    exact Below.only hb hO hb.size (fun j e => by omega))
  have HW := hide (And.intro hw1 (And.intro hB3 (And.intro hB4 (And.intro hB5 (And.intro hB6 (And.intro b1 hs1))))))
  have H := hide (And.intro hN (And.intro hre (And.intro hbh (And.intro hV40 (And.intro hkc (And.intro hsb (And.intro hsz (And.intro k63s hck))))))))
  obtain ⟨x0, x1, x2, y0, y1, y2, y3, y4, z0, z1, z2, z3, z4, z5, xr⟩ := up w1 (Below.refl _ _)
  replace up := hide up
  clear h hp hN hNP hre hbh hV40 hkc hsb hsz hss k63s hck m0 m1 m2 m3 b1 hs1 hw1 hB3 hB4 hB5 hB6
  have k14a := k14 w1 (Below.refl _ _)
  go_enter Tryz.func27, Tryz.ntmps27
  go_upto_region 1 with fail
  obtain ⟨e1, eB3, eB4, eB5, eB6, -⟩ := HW.out
  rw [← e1, ← eB6, ← eB5, ← eB4, ← eB3]
  clear e1 eB3 eB4 eB5 eB6
  go_upto_region 3 with (go_at_call 14; refine k14a.mono ?_; rintro e wq ⟨rfl, bq⟩; have HQ := hide bq; clear bq k14a k14 x0 x1 x2 y0 y1 y2 y3 y4 z0 z1 z2 z3 z4 z5 xr; obtain ⟨x0, x1, x2, y0, y1, y2, y3, y4, z0, z1, z2, z3, z4, z5, xr⟩ := up.out wq HQ.out; dsimp only)
  go_cut [46] (fun v wz => v = .bool (!(V1 && V2 && !(decide (CE = 2)) && V4)) ∧ Hid (Below w1.heap.size w1 wz))
  case first =>
    cases V1
    · have hS : wq.cell? ⟨B3, 0, none⟩ = some (.int .i64 k) ∧ wq.cell? ⟨B3, 1, none⟩ = some (.int .i64 n) ∧ wq.cell? ⟨B3, 2, none⟩ = some (.slice ao N c) ∧ wq.cell? ⟨B4, 0, none⟩ = some (.int .i64 g) ∧ wq.cell? ⟨B4, 1, none⟩ = some (.int .i64 r) ∧ wq.cell? ⟨B4, 2, none⟩ = some (.string l0) ∧ wq.cell? ⟨B4, 3, none⟩ = some (.int .i64 n0) ∧ wq.cell? ⟨B4, 4, none⟩ = some (.int .i64 i0) ∧ Below w1.heap.size w1 wq := ⟨x0, x1, x2, y0, y1, y2, y3, y4, HQ.out⟩
      have qd : wq.drew.cell? ⟨B3, 0, none⟩ = some (.int .i64 k) ∧ wq.drew.cell? ⟨B3, 1, none⟩ = some (.int .i64 n) ∧ wq.drew.cell? ⟨B3, 2, none⟩ = some (.slice ao N c) ∧ wq.drew.cell? ⟨B4, 0, none⟩ = some (.int .i64 g) ∧ wq.drew.cell? ⟨B4, 1, none⟩ = some (.int .i64 r) ∧ wq.drew.cell? ⟨B4, 2, none⟩ = some (.string l0) ∧ wq.drew.cell? ⟨B4, 3, none⟩ = some (.int .i64 n0) ∧ wq.drew.cell? ⟨B4, 4, none⟩ = some (.int .i64 i0) ∧ Below w1.heap.size w1 wq.drew := ⟨cell_stays hS.1 (drew_below wq), cell_stays hS.2.1 (drew_below wq), cell_stays hS.2.2.1 (drew_below wq), cell_stays hS.2.2.2.1 (drew_below wq), cell_stays hS.2.2.2.2.1 (drew_below wq), cell_stays hS.2.2.2.2.2.1 (drew_below wq), cell_stays hS.2.2.2.2.2.2.1 (drew_below wq), cell_stays hS.2.2.2.2.2.2.2.1 (drew_below wq), nextB hS.2.2.2.2.2.2.2.2 (drew_below wq)⟩
      refine wp_region_held_drew (S := (fun w' => w'.cell? ⟨B3, 0, none⟩ = some (.int .i64 k) ∧ w'.cell? ⟨B3, 1, none⟩ = some (.int .i64 n) ∧ w'.cell? ⟨B3, 2, none⟩ = some (.slice ao N c) ∧ w'.cell? ⟨B4, 0, none⟩ = some (.int .i64 g) ∧ w'.cell? ⟨B4, 1, none⟩ = some (.int .i64 r) ∧ w'.cell? ⟨B4, 2, none⟩ = some (.string l0) ∧ w'.cell? ⟨B4, 3, none⟩ = some (.int .i64 n0) ∧ w'.cell? ⟨B4, 4, none⟩ = some (.int .i64 i0) ∧ Below w1.heap.size w1 w')) (by kernel_rfl) qd (fun hHeld => ?_)
      try dsimp only at hHeld
      refine take_op (i := 0) (d := 19) (OP := Op.load 46 (Operand.tmp 3)) (T := 46) (v := ?vzz1) rfl rfl rfl rfl (by kernel_rfl) (by kernel_rfl) (by kernel_rfl) (fun _ _ _ h => h) (by rfl) ?hzz1 hHeld ?rzz1
      case hzz1 => (intro w' hSw; (try dsimp only at hSw); go_simp <;> with_reducible rfl)
      try simp only [Act.put, List.setIfInBounds_toArray, List.set_cons_zero, List.set_cons_succ]
      refine call_op (i := 1) (d := 20) (OP := Op.call { callee := Callee.value (Operand.func 30), args := #[Operand.tmp 19], argTypes := #[46] }) (T := 4) (f := 30) (args := #[vv k n ao N c]) rfl rfl rfl rfl (by kernel_rfl) (by rfl) (by go_simp) ?_
      refine (k30 _ hHeld.2.2.2.2.2.2.2.2).mono ?_
      rintro e z0 ⟨rfl, bz0⟩
      have qz0 : z0.cell? ⟨B3, 0, none⟩ = some (.int .i64 k) ∧ z0.cell? ⟨B3, 1, none⟩ = some (.int .i64 n) ∧ z0.cell? ⟨B3, 2, none⟩ = some (.slice ao N c) ∧ z0.cell? ⟨B4, 0, none⟩ = some (.int .i64 g) ∧ z0.cell? ⟨B4, 1, none⟩ = some (.int .i64 r) ∧ z0.cell? ⟨B4, 2, none⟩ = some (.string l0) ∧ z0.cell? ⟨B4, 3, none⟩ = some (.int .i64 n0) ∧ z0.cell? ⟨B4, 4, none⟩ = some (.int .i64 i0) ∧ Below w1.heap.size w1 z0 := ⟨cell_stays hHeld.1 bz0, cell_stays hHeld.2.1 bz0, cell_stays hHeld.2.2.1 bz0, cell_stays hHeld.2.2.2.1 bz0, cell_stays hHeld.2.2.2.2.1 bz0, cell_stays hHeld.2.2.2.2.2.1 bz0, cell_stays hHeld.2.2.2.2.2.2.1 bz0, cell_stays hHeld.2.2.2.2.2.2.2.1 bz0, nextB hHeld.2.2.2.2.2.2.2.2 bz0⟩
      refine ⟨_, rfl, qz0, ?_⟩
      replace hHeld := qz0
      try simp only [Act.put, List.setIfInBounds_toArray, List.set_cons_zero, List.set_cons_succ]
      refine take_op (i := 2) (d := 21) (OP := Op.unOp UnOp.not 4 (Operand.tmp 20)) (T := 4) (v := ?vzz2) rfl rfl rfl rfl (by kernel_rfl) (by kernel_rfl) (by kernel_rfl) (fun _ _ _ h => h) (by rfl) ?hzz2 hHeld ?rzz2
      case hzz2 => (intro w' hSw; (try dsimp only at hSw); go_simp <;> with_reducible rfl)
      try simp only [Act.put, List.setIfInBounds_toArray, List.set_cons_zero, List.set_cons_succ]
      refine take_op (i := 3) (d := 22) (OP := Op.move (Operand.tmp 21)) (T := 4) (v := ?vzz3) rfl rfl rfl rfl (by kernel_rfl) (by kernel_rfl) (by kernel_rfl) (fun _ _ _ h => h) (by rfl) ?hzz3 hHeld ?rzz3
      case hzz3 => (intro w' hSw; (try dsimp only at hSw); go_simp <;> with_reducible rfl)
      try simp only [Act.put, List.setIfInBounds_toArray, List.set_cons_zero, List.set_cons_succ]
      refine pass_op (i := 4) (d := 23) rfl rfl (by kernel_rfl) (by kernel_rfl) (by kernel_rfl) (fun _ _ _ h => h) (by rfl) hHeld ?_
      try simp only [Act.put, List.setIfInBounds_toArray, List.set_cons_zero, List.set_cons_succ]
      refine pass_op (i := 5) (d := 24) rfl rfl (by kernel_rfl) (by kernel_rfl) (by kernel_rfl) (fun _ _ _ h => h) (by rfl) hHeld ?_
      try simp only [Act.put, List.setIfInBounds_toArray, List.set_cons_zero, List.set_cons_succ]
      refine pass_op (i := 6) (d := 25) rfl rfl (by kernel_rfl) (by kernel_rfl) (by kernel_rfl) (fun _ _ _ h => h) (by rfl) hHeld ?_
      try simp only [Act.put, List.setIfInBounds_toArray, List.set_cons_zero, List.set_cons_succ]
      refine take_op (i := 7) (d := 26) (OP := Op.pick (Operand.tmp 22) (Operand.const (Value.bool true)) (Operand.tmp 25)) (T := 4) (v := ?vzz4) rfl rfl rfl rfl (by kernel_rfl) (by kernel_rfl) (by kernel_rfl) (fun _ _ _ h => h) (by rfl) ?hzz4 hHeld ?rzz4
      case hzz4 => (intro w' hSw; (try dsimp only at hSw); go_simp <;> with_reducible rfl)
      try simp only [Act.put, List.setIfInBounds_toArray, List.set_cons_zero, List.set_cons_succ]
      refine take_op (i := 8) (d := 27) (OP := Op.move (Operand.tmp 26)) (T := 4) (v := ?vzz5) rfl rfl rfl rfl (by kernel_rfl) (by kernel_rfl) (by kernel_rfl) (fun _ _ _ h => h) (by rfl) ?hzz5 hHeld ?rzz5
      case hzz5 => (intro w' hSw; (try dsimp only at hSw); go_simp <;> with_reducible rfl)
      try simp only [Act.put, List.setIfInBounds_toArray, List.set_cons_zero, List.set_cons_succ]
      refine pass_op (i := 9) (d := 28) rfl rfl (by kernel_rfl) (by kernel_rfl) (by kernel_rfl) (fun _ _ _ h => h) (by rfl) hHeld ?_
      try simp only [Act.put, List.setIfInBounds_toArray, List.set_cons_zero, List.set_cons_succ]
      refine pass_op (i := 10) (d := 29) rfl rfl (by kernel_rfl) (by kernel_rfl) (by kernel_rfl) (fun _ _ _ h => h) (by rfl) hHeld ?_
      try simp only [Act.put, List.setIfInBounds_toArray, List.set_cons_zero, List.set_cons_succ]
      refine take_op (i := 11) (d := 30) (OP := Op.pick (Operand.tmp 27) (Operand.const (Value.bool true)) (Operand.tmp 29)) (T := 4) (v := ?vzz6) rfl rfl rfl rfl (by kernel_rfl) (by kernel_rfl) (by kernel_rfl) (fun _ _ _ h => h) (by rfl) ?hzz6 hHeld ?rzz6
      case hzz6 => (intro w' hSw; (try dsimp only at hSw); go_simp <;> with_reducible rfl)
      try simp only [Act.put, List.setIfInBounds_toArray, List.set_cons_zero, List.set_cons_succ]
      refine take_op (i := 12) (d := 31) (OP := Op.move (Operand.tmp 30)) (T := 4) (v := ?vzz7) rfl rfl rfl rfl (by kernel_rfl) (by kernel_rfl) (by kernel_rfl) (fun _ _ _ h => h) (by rfl) ?hzz7 hHeld ?rzz7
      case hzz7 => (intro w' hSw; (try dsimp only at hSw); go_simp <;> with_reducible rfl)
      try simp only [Act.put, List.setIfInBounds_toArray, List.set_cons_zero, List.set_cons_succ]
      refine pass_op (i := 13) (d := 32) rfl rfl (by kernel_rfl) (by kernel_rfl) (by kernel_rfl) (fun _ _ _ h => h) (by rfl) hHeld ?_
      try simp only [Act.put, List.setIfInBounds_toArray, List.set_cons_zero, List.set_cons_succ]
      refine pass_op (i := 14) (d := 33) rfl rfl (by kernel_rfl) (by kernel_rfl) (by kernel_rfl) (fun _ _ _ h => h) (by rfl) hHeld ?_
      try simp only [Act.put, List.setIfInBounds_toArray, List.set_cons_zero, List.set_cons_succ]
      refine pass_op (i := 15) (d := 34) rfl rfl (by kernel_rfl) (by kernel_rfl) (by kernel_rfl) (fun _ _ _ h => h) (by rfl) hHeld ?_
      try simp only [Act.put, List.setIfInBounds_toArray, List.set_cons_zero, List.set_cons_succ]
      refine pass_op (i := 16) (d := 35) rfl rfl (by kernel_rfl) (by kernel_rfl) (by kernel_rfl) (fun _ _ _ h => h) (by rfl) hHeld ?_
      try simp only [Act.put, List.setIfInBounds_toArray, List.set_cons_zero, List.set_cons_succ]
      refine pass_op (i := 17) (d := 36) rfl rfl (by kernel_rfl) (by kernel_rfl) (by kernel_rfl) (fun _ _ _ h => h) (by rfl) hHeld ?_
      try simp only [Act.put, List.setIfInBounds_toArray, List.set_cons_zero, List.set_cons_succ]
      refine pass_op (i := 18) (d := 37) rfl rfl (by kernel_rfl) (by kernel_rfl) (by kernel_rfl) (fun _ _ _ h => h) (by rfl) hHeld ?_
      try simp only [Act.put, List.setIfInBounds_toArray, List.set_cons_zero, List.set_cons_succ]
      refine pass_op (i := 19) (d := 38) rfl rfl (by kernel_rfl) (by kernel_rfl) (by kernel_rfl) (fun _ _ _ h => h) (by rfl) hHeld ?_
      try simp only [Act.put, List.setIfInBounds_toArray, List.set_cons_zero, List.set_cons_succ]
      refine pass_op (i := 20) (d := 39) rfl rfl (by kernel_rfl) (by kernel_rfl) (by kernel_rfl) (fun _ _ _ h => h) (by rfl) hHeld ?_
      try simp only [Act.put, List.setIfInBounds_toArray, List.set_cons_zero, List.set_cons_succ]
      refine pass_op (i := 21) (d := 40) rfl rfl (by kernel_rfl) (by kernel_rfl) (by kernel_rfl) (fun _ _ _ h => h) (by rfl) hHeld ?_
      try simp only [Act.put, List.setIfInBounds_toArray, List.set_cons_zero, List.set_cons_succ]
      refine pass_op (i := 22) (d := 41) rfl rfl (by kernel_rfl) (by kernel_rfl) (by kernel_rfl) (fun _ _ _ h => h) (by rfl) hHeld ?_
      try simp only [Act.put, List.setIfInBounds_toArray, List.set_cons_zero, List.set_cons_succ]
      refine pass_op (i := 23) (d := 42) rfl rfl (by kernel_rfl) (by kernel_rfl) (by kernel_rfl) (fun _ _ _ h => h) (by rfl) hHeld ?_
      try simp only [Act.put, List.setIfInBounds_toArray, List.set_cons_zero, List.set_cons_succ]
      refine pass_op (i := 24) (d := 43) rfl rfl (by kernel_rfl) (by kernel_rfl) (by kernel_rfl) (fun _ _ _ h => h) (by rfl) hHeld ?_
      try simp only [Act.put, List.setIfInBounds_toArray, List.set_cons_zero, List.set_cons_succ]
      refine pass_op (i := 25) (d := 44) rfl rfl (by kernel_rfl) (by kernel_rfl) (by kernel_rfl) (fun _ _ _ h => h) (by rfl) hHeld ?_
      try simp only [Act.put, List.setIfInBounds_toArray, List.set_cons_zero, List.set_cons_succ]
      refine pass_op (i := 26) (d := 45) rfl rfl (by kernel_rfl) (by kernel_rfl) (by kernel_rfl) (fun _ _ _ h => h) (by rfl) hHeld ?_
      try simp only [Act.put, List.setIfInBounds_toArray, List.set_cons_zero, List.set_cons_succ]
      refine take_op (i := 27) (d := 46) (OP := Op.pick (Operand.tmp 31) (Operand.const (Value.bool true)) (Operand.tmp 45)) (T := 4) (v := ?vzz8) rfl rfl rfl rfl (by kernel_rfl) (by kernel_rfl) (by kernel_rfl) (fun _ _ _ h => h) (by rfl) ?hzz8 hHeld ?rzz8
      case hzz8 => (intro w' hSw; (try dsimp only at hSw); go_simp <;> with_reducible rfl)
      try simp only [Act.put, List.setIfInBounds_toArray, List.set_cons_zero, List.set_cons_succ]
      refine wpAnyH_done (by kernel_rfl) ?_ _
      have HE := hide hHeld.2.2.2.2.2.2.2.2
      clear hHeld qd hS
      clear k30 k62 k16 H up HW hret HR
      first | go_meet | (go_wp2; go_meet)
      exact ⟨by first | (simp; done) | (simp [dC2]; done) | rfl, HE⟩
    cases V2
    · have hS : wq.cell? ⟨B3, 0, none⟩ = some (.int .i64 k) ∧ wq.cell? ⟨B3, 1, none⟩ = some (.int .i64 n) ∧ wq.cell? ⟨B3, 2, none⟩ = some (.slice ao N c) ∧ wq.cell? ⟨B4, 0, none⟩ = some (.int .i64 g) ∧ wq.cell? ⟨B4, 1, none⟩ = some (.int .i64 r) ∧ wq.cell? ⟨B4, 2, none⟩ = some (.string l0) ∧ wq.cell? ⟨B4, 3, none⟩ = some (.int .i64 n0) ∧ wq.cell? ⟨B4, 4, none⟩ = some (.int .i64 i0) ∧ Below w1.heap.size w1 wq := ⟨x0, x1, x2, y0, y1, y2, y3, y4, HQ.out⟩
      have qd : wq.drew.cell? ⟨B3, 0, none⟩ = some (.int .i64 k) ∧ wq.drew.cell? ⟨B3, 1, none⟩ = some (.int .i64 n) ∧ wq.drew.cell? ⟨B3, 2, none⟩ = some (.slice ao N c) ∧ wq.drew.cell? ⟨B4, 0, none⟩ = some (.int .i64 g) ∧ wq.drew.cell? ⟨B4, 1, none⟩ = some (.int .i64 r) ∧ wq.drew.cell? ⟨B4, 2, none⟩ = some (.string l0) ∧ wq.drew.cell? ⟨B4, 3, none⟩ = some (.int .i64 n0) ∧ wq.drew.cell? ⟨B4, 4, none⟩ = some (.int .i64 i0) ∧ Below w1.heap.size w1 wq.drew := ⟨cell_stays hS.1 (drew_below wq), cell_stays hS.2.1 (drew_below wq), cell_stays hS.2.2.1 (drew_below wq), cell_stays hS.2.2.2.1 (drew_below wq), cell_stays hS.2.2.2.2.1 (drew_below wq), cell_stays hS.2.2.2.2.2.1 (drew_below wq), cell_stays hS.2.2.2.2.2.2.1 (drew_below wq), cell_stays hS.2.2.2.2.2.2.2.1 (drew_below wq), nextB hS.2.2.2.2.2.2.2.2 (drew_below wq)⟩
      refine wp_region_held_drew (S := (fun w' => w'.cell? ⟨B3, 0, none⟩ = some (.int .i64 k) ∧ w'.cell? ⟨B3, 1, none⟩ = some (.int .i64 n) ∧ w'.cell? ⟨B3, 2, none⟩ = some (.slice ao N c) ∧ w'.cell? ⟨B4, 0, none⟩ = some (.int .i64 g) ∧ w'.cell? ⟨B4, 1, none⟩ = some (.int .i64 r) ∧ w'.cell? ⟨B4, 2, none⟩ = some (.string l0) ∧ w'.cell? ⟨B4, 3, none⟩ = some (.int .i64 n0) ∧ w'.cell? ⟨B4, 4, none⟩ = some (.int .i64 i0) ∧ Below w1.heap.size w1 w')) (by kernel_rfl) qd (fun hHeld => ?_)
      try dsimp only at hHeld
      refine take_op (i := 0) (d := 19) (OP := Op.load 46 (Operand.tmp 3)) (T := 46) (v := ?vzz9) rfl rfl rfl rfl (by kernel_rfl) (by kernel_rfl) (by kernel_rfl) (fun _ _ _ h => h) (by rfl) ?hzz9 hHeld ?rzz9
      case hzz9 => (intro w' hSw; (try dsimp only at hSw); go_simp <;> with_reducible rfl)
      try simp only [Act.put, List.setIfInBounds_toArray, List.set_cons_zero, List.set_cons_succ]
      refine call_op (i := 1) (d := 20) (OP := Op.call { callee := Callee.value (Operand.func 30), args := #[Operand.tmp 19], argTypes := #[46] }) (T := 4) (f := 30) (args := #[vv k n ao N c]) rfl rfl rfl rfl (by kernel_rfl) (by rfl) (by go_simp) ?_
      refine (k30 _ hHeld.2.2.2.2.2.2.2.2).mono ?_
      rintro e z0 ⟨rfl, bz0⟩
      have qz0 : z0.cell? ⟨B3, 0, none⟩ = some (.int .i64 k) ∧ z0.cell? ⟨B3, 1, none⟩ = some (.int .i64 n) ∧ z0.cell? ⟨B3, 2, none⟩ = some (.slice ao N c) ∧ z0.cell? ⟨B4, 0, none⟩ = some (.int .i64 g) ∧ z0.cell? ⟨B4, 1, none⟩ = some (.int .i64 r) ∧ z0.cell? ⟨B4, 2, none⟩ = some (.string l0) ∧ z0.cell? ⟨B4, 3, none⟩ = some (.int .i64 n0) ∧ z0.cell? ⟨B4, 4, none⟩ = some (.int .i64 i0) ∧ Below w1.heap.size w1 z0 := ⟨cell_stays hHeld.1 bz0, cell_stays hHeld.2.1 bz0, cell_stays hHeld.2.2.1 bz0, cell_stays hHeld.2.2.2.1 bz0, cell_stays hHeld.2.2.2.2.1 bz0, cell_stays hHeld.2.2.2.2.2.1 bz0, cell_stays hHeld.2.2.2.2.2.2.1 bz0, cell_stays hHeld.2.2.2.2.2.2.2.1 bz0, nextB hHeld.2.2.2.2.2.2.2.2 bz0⟩
      refine ⟨_, rfl, qz0, ?_⟩
      replace hHeld := qz0
      try simp only [Act.put, List.setIfInBounds_toArray, List.set_cons_zero, List.set_cons_succ]
      refine take_op (i := 2) (d := 21) (OP := Op.unOp UnOp.not 4 (Operand.tmp 20)) (T := 4) (v := ?vzz10) rfl rfl rfl rfl (by kernel_rfl) (by kernel_rfl) (by kernel_rfl) (fun _ _ _ h => h) (by rfl) ?hzz10 hHeld ?rzz10
      case hzz10 => (intro w' hSw; (try dsimp only at hSw); go_simp <;> with_reducible rfl)
      try simp only [Act.put, List.setIfInBounds_toArray, List.set_cons_zero, List.set_cons_succ]
      refine take_op (i := 3) (d := 22) (OP := Op.move (Operand.tmp 21)) (T := 4) (v := ?vzz11) rfl rfl rfl rfl (by kernel_rfl) (by kernel_rfl) (by kernel_rfl) (fun _ _ _ h => h) (by rfl) ?hzz11 hHeld ?rzz11
      case hzz11 => (intro w' hSw; (try dsimp only at hSw); go_simp <;> with_reducible rfl)
      try simp only [Act.put, List.setIfInBounds_toArray, List.set_cons_zero, List.set_cons_succ]
      refine take_op (i := 4) (d := 23) (OP := Op.load 52 (Operand.tmp 4)) (T := 52) (v := ?vzz12) rfl rfl rfl rfl (by kernel_rfl) (by kernel_rfl) (by kernel_rfl) (fun _ _ _ h => h) (by rfl) ?hzz12 hHeld ?rzz12
      case hzz12 => (intro w' hSw; (try dsimp only at hSw); go_simp <;> with_reducible rfl)
      try simp only [Act.put, List.setIfInBounds_toArray, List.set_cons_zero, List.set_cons_succ]
      refine call_op (i := 5) (d := 24) (OP := Op.call { callee := Callee.value (Operand.func 62), args := #[Operand.tmp 23], argTypes := #[52] }) (T := 4) (f := 62) (args := #[.agg #[.int .i64 g, .int .i64 r, .string l0, .int .i64 n0, .int .i64 i0]]) rfl rfl rfl rfl (by kernel_rfl) (by rfl) (by go_simp) ?_
      refine (k62 _).mono ?_
      rintro e z1 ⟨rfl, bz1⟩
      have qz1 : z1.cell? ⟨B3, 0, none⟩ = some (.int .i64 k) ∧ z1.cell? ⟨B3, 1, none⟩ = some (.int .i64 n) ∧ z1.cell? ⟨B3, 2, none⟩ = some (.slice ao N c) ∧ z1.cell? ⟨B4, 0, none⟩ = some (.int .i64 g) ∧ z1.cell? ⟨B4, 1, none⟩ = some (.int .i64 r) ∧ z1.cell? ⟨B4, 2, none⟩ = some (.string l0) ∧ z1.cell? ⟨B4, 3, none⟩ = some (.int .i64 n0) ∧ z1.cell? ⟨B4, 4, none⟩ = some (.int .i64 i0) ∧ Below w1.heap.size w1 z1 := ⟨cell_stays hHeld.1 bz1, cell_stays hHeld.2.1 bz1, cell_stays hHeld.2.2.1 bz1, cell_stays hHeld.2.2.2.1 bz1, cell_stays hHeld.2.2.2.2.1 bz1, cell_stays hHeld.2.2.2.2.2.1 bz1, cell_stays hHeld.2.2.2.2.2.2.1 bz1, cell_stays hHeld.2.2.2.2.2.2.2.1 bz1, nextB hHeld.2.2.2.2.2.2.2.2 bz1⟩
      refine ⟨_, rfl, qz1, ?_⟩
      replace hHeld := qz1
      try simp only [Act.put, List.setIfInBounds_toArray, List.set_cons_zero, List.set_cons_succ]
      refine take_op (i := 6) (d := 25) (OP := Op.unOp UnOp.not 4 (Operand.tmp 24)) (T := 4) (v := ?vzz13) rfl rfl rfl rfl (by kernel_rfl) (by kernel_rfl) (by kernel_rfl) (fun _ _ _ h => h) (by rfl) ?hzz13 hHeld ?rzz13
      case hzz13 => (intro w' hSw; (try dsimp only at hSw); go_simp <;> with_reducible rfl)
      try simp only [Act.put, List.setIfInBounds_toArray, List.set_cons_zero, List.set_cons_succ]
      refine take_op (i := 7) (d := 26) (OP := Op.pick (Operand.tmp 22) (Operand.const (Value.bool true)) (Operand.tmp 25)) (T := 4) (v := ?vzz14) rfl rfl rfl rfl (by kernel_rfl) (by kernel_rfl) (by kernel_rfl) (fun _ _ _ h => h) (by rfl) ?hzz14 hHeld ?rzz14
      case hzz14 => (intro w' hSw; (try dsimp only at hSw); go_simp <;> with_reducible rfl)
      try simp only [Act.put, List.setIfInBounds_toArray, List.set_cons_zero, List.set_cons_succ]
      refine take_op (i := 8) (d := 27) (OP := Op.move (Operand.tmp 26)) (T := 4) (v := ?vzz15) rfl rfl rfl rfl (by kernel_rfl) (by kernel_rfl) (by kernel_rfl) (fun _ _ _ h => h) (by rfl) ?hzz15 hHeld ?rzz15
      case hzz15 => (intro w' hSw; (try dsimp only at hSw); go_simp <;> with_reducible rfl)
      try simp only [Act.put, List.setIfInBounds_toArray, List.set_cons_zero, List.set_cons_succ]
      refine pass_op (i := 9) (d := 28) rfl rfl (by kernel_rfl) (by kernel_rfl) (by kernel_rfl) (fun _ _ _ h => h) (by rfl) hHeld ?_
      try simp only [Act.put, List.setIfInBounds_toArray, List.set_cons_zero, List.set_cons_succ]
      refine pass_op (i := 10) (d := 29) rfl rfl (by kernel_rfl) (by kernel_rfl) (by kernel_rfl) (fun _ _ _ h => h) (by rfl) hHeld ?_
      try simp only [Act.put, List.setIfInBounds_toArray, List.set_cons_zero, List.set_cons_succ]
      refine take_op (i := 11) (d := 30) (OP := Op.pick (Operand.tmp 27) (Operand.const (Value.bool true)) (Operand.tmp 29)) (T := 4) (v := ?vzz16) rfl rfl rfl rfl (by kernel_rfl) (by kernel_rfl) (by kernel_rfl) (fun _ _ _ h => h) (by rfl) ?hzz16 hHeld ?rzz16
      case hzz16 => (intro w' hSw; (try dsimp only at hSw); go_simp <;> with_reducible rfl)
      try simp only [Act.put, List.setIfInBounds_toArray, List.set_cons_zero, List.set_cons_succ]
      refine take_op (i := 12) (d := 31) (OP := Op.move (Operand.tmp 30)) (T := 4) (v := ?vzz17) rfl rfl rfl rfl (by kernel_rfl) (by kernel_rfl) (by kernel_rfl) (fun _ _ _ h => h) (by rfl) ?hzz17 hHeld ?rzz17
      case hzz17 => (intro w' hSw; (try dsimp only at hSw); go_simp <;> with_reducible rfl)
      try simp only [Act.put, List.setIfInBounds_toArray, List.set_cons_zero, List.set_cons_succ]
      refine pass_op (i := 13) (d := 32) rfl rfl (by kernel_rfl) (by kernel_rfl) (by kernel_rfl) (fun _ _ _ h => h) (by rfl) hHeld ?_
      try simp only [Act.put, List.setIfInBounds_toArray, List.set_cons_zero, List.set_cons_succ]
      refine pass_op (i := 14) (d := 33) rfl rfl (by kernel_rfl) (by kernel_rfl) (by kernel_rfl) (fun _ _ _ h => h) (by rfl) hHeld ?_
      try simp only [Act.put, List.setIfInBounds_toArray, List.set_cons_zero, List.set_cons_succ]
      refine pass_op (i := 15) (d := 34) rfl rfl (by kernel_rfl) (by kernel_rfl) (by kernel_rfl) (fun _ _ _ h => h) (by rfl) hHeld ?_
      try simp only [Act.put, List.setIfInBounds_toArray, List.set_cons_zero, List.set_cons_succ]
      refine pass_op (i := 16) (d := 35) rfl rfl (by kernel_rfl) (by kernel_rfl) (by kernel_rfl) (fun _ _ _ h => h) (by rfl) hHeld ?_
      try simp only [Act.put, List.setIfInBounds_toArray, List.set_cons_zero, List.set_cons_succ]
      refine pass_op (i := 17) (d := 36) rfl rfl (by kernel_rfl) (by kernel_rfl) (by kernel_rfl) (fun _ _ _ h => h) (by rfl) hHeld ?_
      try simp only [Act.put, List.setIfInBounds_toArray, List.set_cons_zero, List.set_cons_succ]
      refine pass_op (i := 18) (d := 37) rfl rfl (by kernel_rfl) (by kernel_rfl) (by kernel_rfl) (fun _ _ _ h => h) (by rfl) hHeld ?_
      try simp only [Act.put, List.setIfInBounds_toArray, List.set_cons_zero, List.set_cons_succ]
      refine pass_op (i := 19) (d := 38) rfl rfl (by kernel_rfl) (by kernel_rfl) (by kernel_rfl) (fun _ _ _ h => h) (by rfl) hHeld ?_
      try simp only [Act.put, List.setIfInBounds_toArray, List.set_cons_zero, List.set_cons_succ]
      refine pass_op (i := 20) (d := 39) rfl rfl (by kernel_rfl) (by kernel_rfl) (by kernel_rfl) (fun _ _ _ h => h) (by rfl) hHeld ?_
      try simp only [Act.put, List.setIfInBounds_toArray, List.set_cons_zero, List.set_cons_succ]
      refine pass_op (i := 21) (d := 40) rfl rfl (by kernel_rfl) (by kernel_rfl) (by kernel_rfl) (fun _ _ _ h => h) (by rfl) hHeld ?_
      try simp only [Act.put, List.setIfInBounds_toArray, List.set_cons_zero, List.set_cons_succ]
      refine pass_op (i := 22) (d := 41) rfl rfl (by kernel_rfl) (by kernel_rfl) (by kernel_rfl) (fun _ _ _ h => h) (by rfl) hHeld ?_
      try simp only [Act.put, List.setIfInBounds_toArray, List.set_cons_zero, List.set_cons_succ]
      refine pass_op (i := 23) (d := 42) rfl rfl (by kernel_rfl) (by kernel_rfl) (by kernel_rfl) (fun _ _ _ h => h) (by rfl) hHeld ?_
      try simp only [Act.put, List.setIfInBounds_toArray, List.set_cons_zero, List.set_cons_succ]
      refine pass_op (i := 24) (d := 43) rfl rfl (by kernel_rfl) (by kernel_rfl) (by kernel_rfl) (fun _ _ _ h => h) (by rfl) hHeld ?_
      try simp only [Act.put, List.setIfInBounds_toArray, List.set_cons_zero, List.set_cons_succ]
      refine pass_op (i := 25) (d := 44) rfl rfl (by kernel_rfl) (by kernel_rfl) (by kernel_rfl) (fun _ _ _ h => h) (by rfl) hHeld ?_
      try simp only [Act.put, List.setIfInBounds_toArray, List.set_cons_zero, List.set_cons_succ]
      refine pass_op (i := 26) (d := 45) rfl rfl (by kernel_rfl) (by kernel_rfl) (by kernel_rfl) (fun _ _ _ h => h) (by rfl) hHeld ?_
      try simp only [Act.put, List.setIfInBounds_toArray, List.set_cons_zero, List.set_cons_succ]
      refine take_op (i := 27) (d := 46) (OP := Op.pick (Operand.tmp 31) (Operand.const (Value.bool true)) (Operand.tmp 45)) (T := 4) (v := ?vzz18) rfl rfl rfl rfl (by kernel_rfl) (by kernel_rfl) (by kernel_rfl) (fun _ _ _ h => h) (by rfl) ?hzz18 hHeld ?rzz18
      case hzz18 => (intro w' hSw; (try dsimp only at hSw); go_simp <;> with_reducible rfl)
      try simp only [Act.put, List.setIfInBounds_toArray, List.set_cons_zero, List.set_cons_succ]
      refine wpAnyH_done (by kernel_rfl) ?_ _
      have HE := hide hHeld.2.2.2.2.2.2.2.2
      clear hHeld qd hS
      clear k30 k62 k16 H up HW hret HR
      first | go_meet | (go_wp2; go_meet)
      exact ⟨by first | (simp; done) | (simp [dC2]; done) | rfl, HE⟩
    by_cases hC2 : CE = 2
    · subst hC2
      have hS : wq.cell? ⟨B3, 0, none⟩ = some (.int .i64 k) ∧ wq.cell? ⟨B3, 1, none⟩ = some (.int .i64 n) ∧ wq.cell? ⟨B3, 2, none⟩ = some (.slice ao N c) ∧ wq.cell? ⟨B4, 0, none⟩ = some (.int .i64 g) ∧ wq.cell? ⟨B4, 1, none⟩ = some (.int .i64 r) ∧ wq.cell? ⟨B4, 2, none⟩ = some (.string l0) ∧ wq.cell? ⟨B4, 3, none⟩ = some (.int .i64 n0) ∧ wq.cell? ⟨B4, 4, none⟩ = some (.int .i64 i0) ∧ Below w1.heap.size w1 wq := ⟨x0, x1, x2, y0, y1, y2, y3, y4, HQ.out⟩
      have qd : wq.drew.cell? ⟨B3, 0, none⟩ = some (.int .i64 k) ∧ wq.drew.cell? ⟨B3, 1, none⟩ = some (.int .i64 n) ∧ wq.drew.cell? ⟨B3, 2, none⟩ = some (.slice ao N c) ∧ wq.drew.cell? ⟨B4, 0, none⟩ = some (.int .i64 g) ∧ wq.drew.cell? ⟨B4, 1, none⟩ = some (.int .i64 r) ∧ wq.drew.cell? ⟨B4, 2, none⟩ = some (.string l0) ∧ wq.drew.cell? ⟨B4, 3, none⟩ = some (.int .i64 n0) ∧ wq.drew.cell? ⟨B4, 4, none⟩ = some (.int .i64 i0) ∧ Below w1.heap.size w1 wq.drew := ⟨cell_stays hS.1 (drew_below wq), cell_stays hS.2.1 (drew_below wq), cell_stays hS.2.2.1 (drew_below wq), cell_stays hS.2.2.2.1 (drew_below wq), cell_stays hS.2.2.2.2.1 (drew_below wq), cell_stays hS.2.2.2.2.2.1 (drew_below wq), cell_stays hS.2.2.2.2.2.2.1 (drew_below wq), cell_stays hS.2.2.2.2.2.2.2.1 (drew_below wq), nextB hS.2.2.2.2.2.2.2.2 (drew_below wq)⟩
      refine wp_region_held_drew (S := (fun w' => w'.cell? ⟨B3, 0, none⟩ = some (.int .i64 k) ∧ w'.cell? ⟨B3, 1, none⟩ = some (.int .i64 n) ∧ w'.cell? ⟨B3, 2, none⟩ = some (.slice ao N c) ∧ w'.cell? ⟨B4, 0, none⟩ = some (.int .i64 g) ∧ w'.cell? ⟨B4, 1, none⟩ = some (.int .i64 r) ∧ w'.cell? ⟨B4, 2, none⟩ = some (.string l0) ∧ w'.cell? ⟨B4, 3, none⟩ = some (.int .i64 n0) ∧ w'.cell? ⟨B4, 4, none⟩ = some (.int .i64 i0) ∧ Below w1.heap.size w1 w')) (by kernel_rfl) qd (fun hHeld => ?_)
      try dsimp only at hHeld
      refine take_op (i := 0) (d := 19) (OP := Op.load 46 (Operand.tmp 3)) (T := 46) (v := ?vzz19) rfl rfl rfl rfl (by kernel_rfl) (by kernel_rfl) (by kernel_rfl) (fun _ _ _ h => h) (by rfl) ?hzz19 hHeld ?rzz19
      case hzz19 => (intro w' hSw; (try dsimp only at hSw); go_simp <;> with_reducible rfl)
      try simp only [Act.put, List.setIfInBounds_toArray, List.set_cons_zero, List.set_cons_succ]
      refine call_op (i := 1) (d := 20) (OP := Op.call { callee := Callee.value (Operand.func 30), args := #[Operand.tmp 19], argTypes := #[46] }) (T := 4) (f := 30) (args := #[vv k n ao N c]) rfl rfl rfl rfl (by kernel_rfl) (by rfl) (by go_simp) ?_
      refine (k30 _ hHeld.2.2.2.2.2.2.2.2).mono ?_
      rintro e z0 ⟨rfl, bz0⟩
      have qz0 : z0.cell? ⟨B3, 0, none⟩ = some (.int .i64 k) ∧ z0.cell? ⟨B3, 1, none⟩ = some (.int .i64 n) ∧ z0.cell? ⟨B3, 2, none⟩ = some (.slice ao N c) ∧ z0.cell? ⟨B4, 0, none⟩ = some (.int .i64 g) ∧ z0.cell? ⟨B4, 1, none⟩ = some (.int .i64 r) ∧ z0.cell? ⟨B4, 2, none⟩ = some (.string l0) ∧ z0.cell? ⟨B4, 3, none⟩ = some (.int .i64 n0) ∧ z0.cell? ⟨B4, 4, none⟩ = some (.int .i64 i0) ∧ Below w1.heap.size w1 z0 := ⟨cell_stays hHeld.1 bz0, cell_stays hHeld.2.1 bz0, cell_stays hHeld.2.2.1 bz0, cell_stays hHeld.2.2.2.1 bz0, cell_stays hHeld.2.2.2.2.1 bz0, cell_stays hHeld.2.2.2.2.2.1 bz0, cell_stays hHeld.2.2.2.2.2.2.1 bz0, cell_stays hHeld.2.2.2.2.2.2.2.1 bz0, nextB hHeld.2.2.2.2.2.2.2.2 bz0⟩
      refine ⟨_, rfl, qz0, ?_⟩
      replace hHeld := qz0
      try simp only [Act.put, List.setIfInBounds_toArray, List.set_cons_zero, List.set_cons_succ]
      refine take_op (i := 2) (d := 21) (OP := Op.unOp UnOp.not 4 (Operand.tmp 20)) (T := 4) (v := ?vzz20) rfl rfl rfl rfl (by kernel_rfl) (by kernel_rfl) (by kernel_rfl) (fun _ _ _ h => h) (by rfl) ?hzz20 hHeld ?rzz20
      case hzz20 => (intro w' hSw; (try dsimp only at hSw); go_simp <;> with_reducible rfl)
      try simp only [Act.put, List.setIfInBounds_toArray, List.set_cons_zero, List.set_cons_succ]
      refine take_op (i := 3) (d := 22) (OP := Op.move (Operand.tmp 21)) (T := 4) (v := ?vzz21) rfl rfl rfl rfl (by kernel_rfl) (by kernel_rfl) (by kernel_rfl) (fun _ _ _ h => h) (by rfl) ?hzz21 hHeld ?rzz21
      case hzz21 => (intro w' hSw; (try dsimp only at hSw); go_simp <;> with_reducible rfl)
      try simp only [Act.put, List.setIfInBounds_toArray, List.set_cons_zero, List.set_cons_succ]
      refine take_op (i := 4) (d := 23) (OP := Op.load 52 (Operand.tmp 4)) (T := 52) (v := ?vzz22) rfl rfl rfl rfl (by kernel_rfl) (by kernel_rfl) (by kernel_rfl) (fun _ _ _ h => h) (by rfl) ?hzz22 hHeld ?rzz22
      case hzz22 => (intro w' hSw; (try dsimp only at hSw); go_simp <;> with_reducible rfl)
      try simp only [Act.put, List.setIfInBounds_toArray, List.set_cons_zero, List.set_cons_succ]
      refine call_op (i := 5) (d := 24) (OP := Op.call { callee := Callee.value (Operand.func 62), args := #[Operand.tmp 23], argTypes := #[52] }) (T := 4) (f := 62) (args := #[.agg #[.int .i64 g, .int .i64 r, .string l0, .int .i64 n0, .int .i64 i0]]) rfl rfl rfl rfl (by kernel_rfl) (by rfl) (by go_simp) ?_
      refine (k62 _).mono ?_
      rintro e z1 ⟨rfl, bz1⟩
      have qz1 : z1.cell? ⟨B3, 0, none⟩ = some (.int .i64 k) ∧ z1.cell? ⟨B3, 1, none⟩ = some (.int .i64 n) ∧ z1.cell? ⟨B3, 2, none⟩ = some (.slice ao N c) ∧ z1.cell? ⟨B4, 0, none⟩ = some (.int .i64 g) ∧ z1.cell? ⟨B4, 1, none⟩ = some (.int .i64 r) ∧ z1.cell? ⟨B4, 2, none⟩ = some (.string l0) ∧ z1.cell? ⟨B4, 3, none⟩ = some (.int .i64 n0) ∧ z1.cell? ⟨B4, 4, none⟩ = some (.int .i64 i0) ∧ Below w1.heap.size w1 z1 := ⟨cell_stays hHeld.1 bz1, cell_stays hHeld.2.1 bz1, cell_stays hHeld.2.2.1 bz1, cell_stays hHeld.2.2.2.1 bz1, cell_stays hHeld.2.2.2.2.1 bz1, cell_stays hHeld.2.2.2.2.2.1 bz1, cell_stays hHeld.2.2.2.2.2.2.1 bz1, cell_stays hHeld.2.2.2.2.2.2.2.1 bz1, nextB hHeld.2.2.2.2.2.2.2.2 bz1⟩
      refine ⟨_, rfl, qz1, ?_⟩
      replace hHeld := qz1
      try simp only [Act.put, List.setIfInBounds_toArray, List.set_cons_zero, List.set_cons_succ]
      refine take_op (i := 6) (d := 25) (OP := Op.unOp UnOp.not 4 (Operand.tmp 24)) (T := 4) (v := ?vzz23) rfl rfl rfl rfl (by kernel_rfl) (by kernel_rfl) (by kernel_rfl) (fun _ _ _ h => h) (by rfl) ?hzz23 hHeld ?rzz23
      case hzz23 => (intro w' hSw; (try dsimp only at hSw); go_simp <;> with_reducible rfl)
      try simp only [Act.put, List.setIfInBounds_toArray, List.set_cons_zero, List.set_cons_succ]
      refine take_op (i := 7) (d := 26) (OP := Op.pick (Operand.tmp 22) (Operand.const (Value.bool true)) (Operand.tmp 25)) (T := 4) (v := ?vzz24) rfl rfl rfl rfl (by kernel_rfl) (by kernel_rfl) (by kernel_rfl) (fun _ _ _ h => h) (by rfl) ?hzz24 hHeld ?rzz24
      case hzz24 => (intro w' hSw; (try dsimp only at hSw); go_simp <;> with_reducible rfl)
      try simp only [Act.put, List.setIfInBounds_toArray, List.set_cons_zero, List.set_cons_succ]
      refine take_op (i := 8) (d := 27) (OP := Op.move (Operand.tmp 26)) (T := 4) (v := ?vzz25) rfl rfl rfl rfl (by kernel_rfl) (by kernel_rfl) (by kernel_rfl) (fun _ _ _ h => h) (by rfl) ?hzz25 hHeld ?rzz25
      case hzz25 => (intro w' hSw; (try dsimp only at hSw); go_simp <;> with_reducible rfl)
      try simp only [Act.put, List.setIfInBounds_toArray, List.set_cons_zero, List.set_cons_succ]
      refine take_op (i := 9) (d := 28) (OP := Op.move (Operand.tmp 9)) (T := 3) (v := ?vzz26) rfl rfl rfl rfl (by kernel_rfl) (by kernel_rfl) (by kernel_rfl) (fun _ _ _ h => h) (by rfl) ?hzz26 hHeld ?rzz26
      case hzz26 => (intro w' hSw; (try dsimp only at hSw); go_simp <;> with_reducible rfl)
      try simp only [Act.put, List.setIfInBounds_toArray, List.set_cons_zero, List.set_cons_succ]
      refine take_op (i := 10) (d := 29) (OP := Op.binOp BinOp.eql 3 (Operand.tmp 28) (Operand.const (Value.int IntKind.i64 2)) 3) (T := 4) (v := .bool true) rfl rfl rfl rfl (by kernel_rfl) (by kernel_rfl) (by kernel_rfl) (fun _ _ _ h => h) (by rfl) ?hzz27 hHeld ?rzz27
      case hzz27 => (intro w' hSw; (try dsimp only at hSw); go_simp <;> (first | with_reducible rfl | (simp; done) | (simp; omega) | omega))
      try simp only [Act.put, List.setIfInBounds_toArray, List.set_cons_zero, List.set_cons_succ]
      refine take_op (i := 11) (d := 30) (OP := Op.pick (Operand.tmp 27) (Operand.const (Value.bool true)) (Operand.tmp 29)) (T := 4) (v := ?vzz28) rfl rfl rfl rfl (by kernel_rfl) (by kernel_rfl) (by kernel_rfl) (fun _ _ _ h => h) (by rfl) ?hzz28 hHeld ?rzz28
      case hzz28 => (intro w' hSw; (try dsimp only at hSw); go_simp <;> with_reducible rfl)
      try simp only [Act.put, List.setIfInBounds_toArray, List.set_cons_zero, List.set_cons_succ]
      refine take_op (i := 12) (d := 31) (OP := Op.move (Operand.tmp 30)) (T := 4) (v := ?vzz29) rfl rfl rfl rfl (by kernel_rfl) (by kernel_rfl) (by kernel_rfl) (fun _ _ _ h => h) (by rfl) ?hzz29 hHeld ?rzz29
      case hzz29 => (intro w' hSw; (try dsimp only at hSw); go_simp <;> with_reducible rfl)
      try simp only [Act.put, List.setIfInBounds_toArray, List.set_cons_zero, List.set_cons_succ]
      refine pass_op (i := 13) (d := 32) rfl rfl (by kernel_rfl) (by kernel_rfl) (by kernel_rfl) (fun _ _ _ h => h) (by rfl) hHeld ?_
      try simp only [Act.put, List.setIfInBounds_toArray, List.set_cons_zero, List.set_cons_succ]
      refine pass_op (i := 14) (d := 33) rfl rfl (by kernel_rfl) (by kernel_rfl) (by kernel_rfl) (fun _ _ _ h => h) (by rfl) hHeld ?_
      try simp only [Act.put, List.setIfInBounds_toArray, List.set_cons_zero, List.set_cons_succ]
      refine pass_op (i := 15) (d := 34) rfl rfl (by kernel_rfl) (by kernel_rfl) (by kernel_rfl) (fun _ _ _ h => h) (by rfl) hHeld ?_
      try simp only [Act.put, List.setIfInBounds_toArray, List.set_cons_zero, List.set_cons_succ]
      refine pass_op (i := 16) (d := 35) rfl rfl (by kernel_rfl) (by kernel_rfl) (by kernel_rfl) (fun _ _ _ h => h) (by rfl) hHeld ?_
      try simp only [Act.put, List.setIfInBounds_toArray, List.set_cons_zero, List.set_cons_succ]
      refine pass_op (i := 17) (d := 36) rfl rfl (by kernel_rfl) (by kernel_rfl) (by kernel_rfl) (fun _ _ _ h => h) (by rfl) hHeld ?_
      try simp only [Act.put, List.setIfInBounds_toArray, List.set_cons_zero, List.set_cons_succ]
      refine pass_op (i := 18) (d := 37) rfl rfl (by kernel_rfl) (by kernel_rfl) (by kernel_rfl) (fun _ _ _ h => h) (by rfl) hHeld ?_
      try simp only [Act.put, List.setIfInBounds_toArray, List.set_cons_zero, List.set_cons_succ]
      refine pass_op (i := 19) (d := 38) rfl rfl (by kernel_rfl) (by kernel_rfl) (by kernel_rfl) (fun _ _ _ h => h) (by rfl) hHeld ?_
      try simp only [Act.put, List.setIfInBounds_toArray, List.set_cons_zero, List.set_cons_succ]
      refine pass_op (i := 20) (d := 39) rfl rfl (by kernel_rfl) (by kernel_rfl) (by kernel_rfl) (fun _ _ _ h => h) (by rfl) hHeld ?_
      try simp only [Act.put, List.setIfInBounds_toArray, List.set_cons_zero, List.set_cons_succ]
      refine pass_op (i := 21) (d := 40) rfl rfl (by kernel_rfl) (by kernel_rfl) (by kernel_rfl) (fun _ _ _ h => h) (by rfl) hHeld ?_
      try simp only [Act.put, List.setIfInBounds_toArray, List.set_cons_zero, List.set_cons_succ]
      refine pass_op (i := 22) (d := 41) rfl rfl (by kernel_rfl) (by kernel_rfl) (by kernel_rfl) (fun _ _ _ h => h) (by rfl) hHeld ?_
      try simp only [Act.put, List.setIfInBounds_toArray, List.set_cons_zero, List.set_cons_succ]
      refine pass_op (i := 23) (d := 42) rfl rfl (by kernel_rfl) (by kernel_rfl) (by kernel_rfl) (fun _ _ _ h => h) (by rfl) hHeld ?_
      try simp only [Act.put, List.setIfInBounds_toArray, List.set_cons_zero, List.set_cons_succ]
      refine pass_op (i := 24) (d := 43) rfl rfl (by kernel_rfl) (by kernel_rfl) (by kernel_rfl) (fun _ _ _ h => h) (by rfl) hHeld ?_
      try simp only [Act.put, List.setIfInBounds_toArray, List.set_cons_zero, List.set_cons_succ]
      refine pass_op (i := 25) (d := 44) rfl rfl (by kernel_rfl) (by kernel_rfl) (by kernel_rfl) (fun _ _ _ h => h) (by rfl) hHeld ?_
      try simp only [Act.put, List.setIfInBounds_toArray, List.set_cons_zero, List.set_cons_succ]
      refine pass_op (i := 26) (d := 45) rfl rfl (by kernel_rfl) (by kernel_rfl) (by kernel_rfl) (fun _ _ _ h => h) (by rfl) hHeld ?_
      try simp only [Act.put, List.setIfInBounds_toArray, List.set_cons_zero, List.set_cons_succ]
      refine take_op (i := 27) (d := 46) (OP := Op.pick (Operand.tmp 31) (Operand.const (Value.bool true)) (Operand.tmp 45)) (T := 4) (v := ?vzz30) rfl rfl rfl rfl (by kernel_rfl) (by kernel_rfl) (by kernel_rfl) (fun _ _ _ h => h) (by rfl) ?hzz30 hHeld ?rzz30
      case hzz30 => (intro w' hSw; (try dsimp only at hSw); go_simp <;> with_reducible rfl)
      try simp only [Act.put, List.setIfInBounds_toArray, List.set_cons_zero, List.set_cons_succ]
      refine wpAnyH_done (by kernel_rfl) ?_ _
      have HE := hide hHeld.2.2.2.2.2.2.2.2
      clear hHeld qd hS
      clear k30 k62 k16 H up HW hret HR
      first | go_meet | (go_wp2; go_meet)
      exact ⟨by first | (simp; done) | (simp [dC2]; done) | rfl, HE⟩
    have dC2 : decide (CE = 2) = false := by simpa using hC2
    have nC2 : ¬ CE = 2 := hC2
    by_cases hN0 : N = 0
    · have hv4 : V4 = true := H.out.2.2.2.1 (List.eq_nil_of_length_eq_zero (by rw [← H.out.1]; exact hN0))
      subst hv4
      have gN0 : ¬ (0 : Int) < (N : Int) := by omega
      have gN1 : decide (0 < N) = false := by simpa using (by omega : ¬ 0 < N)
      have gN2 : decide ((0 : Int) < (N : Int)) = false := by simpa using gN0
      clear hN0
      have hS : wq.cell? ⟨B3, 0, none⟩ = some (.int .i64 k) ∧ wq.cell? ⟨B3, 1, none⟩ = some (.int .i64 n) ∧ wq.cell? ⟨B3, 2, none⟩ = some (.slice ao N c) ∧ wq.cell? ⟨B4, 0, none⟩ = some (.int .i64 g) ∧ wq.cell? ⟨B4, 1, none⟩ = some (.int .i64 r) ∧ wq.cell? ⟨B4, 2, none⟩ = some (.string l0) ∧ wq.cell? ⟨B4, 3, none⟩ = some (.int .i64 n0) ∧ wq.cell? ⟨B4, 4, none⟩ = some (.int .i64 i0) ∧ Below w1.heap.size w1 wq := ⟨x0, x1, x2, y0, y1, y2, y3, y4, HQ.out⟩
      have qd : wq.drew.cell? ⟨B3, 0, none⟩ = some (.int .i64 k) ∧ wq.drew.cell? ⟨B3, 1, none⟩ = some (.int .i64 n) ∧ wq.drew.cell? ⟨B3, 2, none⟩ = some (.slice ao N c) ∧ wq.drew.cell? ⟨B4, 0, none⟩ = some (.int .i64 g) ∧ wq.drew.cell? ⟨B4, 1, none⟩ = some (.int .i64 r) ∧ wq.drew.cell? ⟨B4, 2, none⟩ = some (.string l0) ∧ wq.drew.cell? ⟨B4, 3, none⟩ = some (.int .i64 n0) ∧ wq.drew.cell? ⟨B4, 4, none⟩ = some (.int .i64 i0) ∧ Below w1.heap.size w1 wq.drew := ⟨cell_stays hS.1 (drew_below wq), cell_stays hS.2.1 (drew_below wq), cell_stays hS.2.2.1 (drew_below wq), cell_stays hS.2.2.2.1 (drew_below wq), cell_stays hS.2.2.2.2.1 (drew_below wq), cell_stays hS.2.2.2.2.2.1 (drew_below wq), cell_stays hS.2.2.2.2.2.2.1 (drew_below wq), cell_stays hS.2.2.2.2.2.2.2.1 (drew_below wq), nextB hS.2.2.2.2.2.2.2.2 (drew_below wq)⟩
      refine wp_region_held_drew (S := (fun w' => w'.cell? ⟨B3, 0, none⟩ = some (.int .i64 k) ∧ w'.cell? ⟨B3, 1, none⟩ = some (.int .i64 n) ∧ w'.cell? ⟨B3, 2, none⟩ = some (.slice ao N c) ∧ w'.cell? ⟨B4, 0, none⟩ = some (.int .i64 g) ∧ w'.cell? ⟨B4, 1, none⟩ = some (.int .i64 r) ∧ w'.cell? ⟨B4, 2, none⟩ = some (.string l0) ∧ w'.cell? ⟨B4, 3, none⟩ = some (.int .i64 n0) ∧ w'.cell? ⟨B4, 4, none⟩ = some (.int .i64 i0) ∧ Below w1.heap.size w1 w')) (by kernel_rfl) qd (fun hHeld => ?_)
      try dsimp only at hHeld
      refine take_op (i := 0) (d := 19) (OP := Op.load 46 (Operand.tmp 3)) (T := 46) (v := ?vzz31) rfl rfl rfl rfl (by kernel_rfl) (by kernel_rfl) (by kernel_rfl) (fun _ _ _ h => h) (by rfl) ?hzz31 hHeld ?rzz31
      case hzz31 => (intro w' hSw; (try dsimp only at hSw); go_simp <;> with_reducible rfl)
      try simp only [Act.put, List.setIfInBounds_toArray, List.set_cons_zero, List.set_cons_succ]
      refine call_op (i := 1) (d := 20) (OP := Op.call { callee := Callee.value (Operand.func 30), args := #[Operand.tmp 19], argTypes := #[46] }) (T := 4) (f := 30) (args := #[vv k n ao N c]) rfl rfl rfl rfl (by kernel_rfl) (by rfl) (by go_simp) ?_
      refine (k30 _ hHeld.2.2.2.2.2.2.2.2).mono ?_
      rintro e z0 ⟨rfl, bz0⟩
      have qz0 : z0.cell? ⟨B3, 0, none⟩ = some (.int .i64 k) ∧ z0.cell? ⟨B3, 1, none⟩ = some (.int .i64 n) ∧ z0.cell? ⟨B3, 2, none⟩ = some (.slice ao N c) ∧ z0.cell? ⟨B4, 0, none⟩ = some (.int .i64 g) ∧ z0.cell? ⟨B4, 1, none⟩ = some (.int .i64 r) ∧ z0.cell? ⟨B4, 2, none⟩ = some (.string l0) ∧ z0.cell? ⟨B4, 3, none⟩ = some (.int .i64 n0) ∧ z0.cell? ⟨B4, 4, none⟩ = some (.int .i64 i0) ∧ Below w1.heap.size w1 z0 := ⟨cell_stays hHeld.1 bz0, cell_stays hHeld.2.1 bz0, cell_stays hHeld.2.2.1 bz0, cell_stays hHeld.2.2.2.1 bz0, cell_stays hHeld.2.2.2.2.1 bz0, cell_stays hHeld.2.2.2.2.2.1 bz0, cell_stays hHeld.2.2.2.2.2.2.1 bz0, cell_stays hHeld.2.2.2.2.2.2.2.1 bz0, nextB hHeld.2.2.2.2.2.2.2.2 bz0⟩
      refine ⟨_, rfl, qz0, ?_⟩
      replace hHeld := qz0
      try simp only [Act.put, List.setIfInBounds_toArray, List.set_cons_zero, List.set_cons_succ]
      refine take_op (i := 2) (d := 21) (OP := Op.unOp UnOp.not 4 (Operand.tmp 20)) (T := 4) (v := ?vzz32) rfl rfl rfl rfl (by kernel_rfl) (by kernel_rfl) (by kernel_rfl) (fun _ _ _ h => h) (by rfl) ?hzz32 hHeld ?rzz32
      case hzz32 => (intro w' hSw; (try dsimp only at hSw); go_simp <;> with_reducible rfl)
      try simp only [Act.put, List.setIfInBounds_toArray, List.set_cons_zero, List.set_cons_succ]
      refine take_op (i := 3) (d := 22) (OP := Op.move (Operand.tmp 21)) (T := 4) (v := ?vzz33) rfl rfl rfl rfl (by kernel_rfl) (by kernel_rfl) (by kernel_rfl) (fun _ _ _ h => h) (by rfl) ?hzz33 hHeld ?rzz33
      case hzz33 => (intro w' hSw; (try dsimp only at hSw); go_simp <;> with_reducible rfl)
      try simp only [Act.put, List.setIfInBounds_toArray, List.set_cons_zero, List.set_cons_succ]
      refine take_op (i := 4) (d := 23) (OP := Op.load 52 (Operand.tmp 4)) (T := 52) (v := ?vzz34) rfl rfl rfl rfl (by kernel_rfl) (by kernel_rfl) (by kernel_rfl) (fun _ _ _ h => h) (by rfl) ?hzz34 hHeld ?rzz34
      case hzz34 => (intro w' hSw; (try dsimp only at hSw); go_simp <;> with_reducible rfl)
      try simp only [Act.put, List.setIfInBounds_toArray, List.set_cons_zero, List.set_cons_succ]
      refine call_op (i := 5) (d := 24) (OP := Op.call { callee := Callee.value (Operand.func 62), args := #[Operand.tmp 23], argTypes := #[52] }) (T := 4) (f := 62) (args := #[.agg #[.int .i64 g, .int .i64 r, .string l0, .int .i64 n0, .int .i64 i0]]) rfl rfl rfl rfl (by kernel_rfl) (by rfl) (by go_simp) ?_
      refine (k62 _).mono ?_
      rintro e z1 ⟨rfl, bz1⟩
      have qz1 : z1.cell? ⟨B3, 0, none⟩ = some (.int .i64 k) ∧ z1.cell? ⟨B3, 1, none⟩ = some (.int .i64 n) ∧ z1.cell? ⟨B3, 2, none⟩ = some (.slice ao N c) ∧ z1.cell? ⟨B4, 0, none⟩ = some (.int .i64 g) ∧ z1.cell? ⟨B4, 1, none⟩ = some (.int .i64 r) ∧ z1.cell? ⟨B4, 2, none⟩ = some (.string l0) ∧ z1.cell? ⟨B4, 3, none⟩ = some (.int .i64 n0) ∧ z1.cell? ⟨B4, 4, none⟩ = some (.int .i64 i0) ∧ Below w1.heap.size w1 z1 := ⟨cell_stays hHeld.1 bz1, cell_stays hHeld.2.1 bz1, cell_stays hHeld.2.2.1 bz1, cell_stays hHeld.2.2.2.1 bz1, cell_stays hHeld.2.2.2.2.1 bz1, cell_stays hHeld.2.2.2.2.2.1 bz1, cell_stays hHeld.2.2.2.2.2.2.1 bz1, cell_stays hHeld.2.2.2.2.2.2.2.1 bz1, nextB hHeld.2.2.2.2.2.2.2.2 bz1⟩
      refine ⟨_, rfl, qz1, ?_⟩
      replace hHeld := qz1
      try simp only [Act.put, List.setIfInBounds_toArray, List.set_cons_zero, List.set_cons_succ]
      refine take_op (i := 6) (d := 25) (OP := Op.unOp UnOp.not 4 (Operand.tmp 24)) (T := 4) (v := ?vzz35) rfl rfl rfl rfl (by kernel_rfl) (by kernel_rfl) (by kernel_rfl) (fun _ _ _ h => h) (by rfl) ?hzz35 hHeld ?rzz35
      case hzz35 => (intro w' hSw; (try dsimp only at hSw); go_simp <;> with_reducible rfl)
      try simp only [Act.put, List.setIfInBounds_toArray, List.set_cons_zero, List.set_cons_succ]
      refine take_op (i := 7) (d := 26) (OP := Op.pick (Operand.tmp 22) (Operand.const (Value.bool true)) (Operand.tmp 25)) (T := 4) (v := ?vzz36) rfl rfl rfl rfl (by kernel_rfl) (by kernel_rfl) (by kernel_rfl) (fun _ _ _ h => h) (by rfl) ?hzz36 hHeld ?rzz36
      case hzz36 => (intro w' hSw; (try dsimp only at hSw); go_simp <;> with_reducible rfl)
      try simp only [Act.put, List.setIfInBounds_toArray, List.set_cons_zero, List.set_cons_succ]
      refine take_op (i := 8) (d := 27) (OP := Op.move (Operand.tmp 26)) (T := 4) (v := ?vzz37) rfl rfl rfl rfl (by kernel_rfl) (by kernel_rfl) (by kernel_rfl) (fun _ _ _ h => h) (by rfl) ?hzz37 hHeld ?rzz37
      case hzz37 => (intro w' hSw; (try dsimp only at hSw); go_simp <;> with_reducible rfl)
      try simp only [Act.put, List.setIfInBounds_toArray, List.set_cons_zero, List.set_cons_succ]
      refine take_op (i := 9) (d := 28) (OP := Op.move (Operand.tmp 9)) (T := 3) (v := ?vzz38) rfl rfl rfl rfl (by kernel_rfl) (by kernel_rfl) (by kernel_rfl) (fun _ _ _ h => h) (by rfl) ?hzz38 hHeld ?rzz38
      case hzz38 => (intro w' hSw; (try dsimp only at hSw); go_simp <;> with_reducible rfl)
      try simp only [Act.put, List.setIfInBounds_toArray, List.set_cons_zero, List.set_cons_succ]
      refine take_op (i := 10) (d := 29) (OP := Op.binOp BinOp.eql 3 (Operand.tmp 28) (Operand.const (Value.int IntKind.i64 2)) 3) (T := 4) (v := .bool false) rfl rfl rfl rfl (by kernel_rfl) (by kernel_rfl) (by kernel_rfl) (fun _ _ _ h => h) (by rfl) ?hzz39 hHeld ?rzz39
      case hzz39 => (intro w' hSw; (try dsimp only at hSw); go_simp <;> (first | with_reducible rfl | (simp; done) | (simp; omega) | omega))
      try simp only [Act.put, List.setIfInBounds_toArray, List.set_cons_zero, List.set_cons_succ]
      refine take_op (i := 11) (d := 30) (OP := Op.pick (Operand.tmp 27) (Operand.const (Value.bool true)) (Operand.tmp 29)) (T := 4) (v := ?vzz40) rfl rfl rfl rfl (by kernel_rfl) (by kernel_rfl) (by kernel_rfl) (fun _ _ _ h => h) (by rfl) ?hzz40 hHeld ?rzz40
      case hzz40 => (intro w' hSw; (try dsimp only at hSw); go_simp <;> with_reducible rfl)
      try simp only [Act.put, List.setIfInBounds_toArray, List.set_cons_zero, List.set_cons_succ]
      refine take_op (i := 12) (d := 31) (OP := Op.move (Operand.tmp 30)) (T := 4) (v := ?vzz41) rfl rfl rfl rfl (by kernel_rfl) (by kernel_rfl) (by kernel_rfl) (fun _ _ _ h => h) (by rfl) ?hzz41 hHeld ?rzz41
      case hzz41 => (intro w' hSw; (try dsimp only at hSw); go_simp <;> with_reducible rfl)
      try simp only [Act.put, List.setIfInBounds_toArray, List.set_cons_zero, List.set_cons_succ]
      refine take_op (i := 13) (d := 32) (OP := Op.move (Operand.tmp 8)) (T := 3) (v := ?vzz42) rfl rfl rfl rfl (by kernel_rfl) (by kernel_rfl) (by kernel_rfl) (fun _ _ _ h => h) (by rfl) ?hzz42 hHeld ?rzz42
      case hzz42 => (intro w' hSw; (try dsimp only at hSw); go_simp <;> with_reducible rfl)
      try simp only [Act.put, List.setIfInBounds_toArray, List.set_cons_zero, List.set_cons_succ]
      refine take_op (i := 14) (d := 33) (OP := Op.binOp BinOp.gtr 3 (Operand.tmp 32) (Operand.const (Value.int IntKind.i64 0)) 3) (T := 4) (v := .bool false) rfl rfl rfl rfl (by kernel_rfl) (by kernel_rfl) (by kernel_rfl) (fun _ _ _ h => h) (by rfl) ?hzz43 hHeld ?rzz43
      case hzz43 => (intro w' hSw; (try dsimp only at hSw); go_simp <;> (first | with_reducible rfl | (simp; done)))
      try simp only [Act.put, List.setIfInBounds_toArray, List.set_cons_zero, List.set_cons_succ]
      refine take_op (i := 15) (d := 34) (OP := Op.move (Operand.tmp 33)) (T := 4) (v := ?vzz44) rfl rfl rfl rfl (by kernel_rfl) (by kernel_rfl) (by kernel_rfl) (fun _ _ _ h => h) (by rfl) ?hzz44 hHeld ?rzz44
      case hzz44 => (intro w' hSw; (try dsimp only at hSw); go_simp <;> with_reducible rfl)
      try simp only [Act.put, List.setIfInBounds_toArray, List.set_cons_zero, List.set_cons_succ]
      refine pass_op (i := 16) (d := 35) rfl rfl (by kernel_rfl) (by kernel_rfl) (by kernel_rfl) (fun _ _ _ h => h) (by rfl) hHeld ?_
      try simp only [Act.put, List.setIfInBounds_toArray, List.set_cons_zero, List.set_cons_succ]
      refine pass_op (i := 17) (d := 36) rfl rfl (by kernel_rfl) (by kernel_rfl) (by kernel_rfl) (fun _ _ _ h => h) (by rfl) hHeld ?_
      try simp only [Act.put, List.setIfInBounds_toArray, List.set_cons_zero, List.set_cons_succ]
      refine pass_op (i := 18) (d := 37) rfl rfl (by kernel_rfl) (by kernel_rfl) (by kernel_rfl) (fun _ _ _ h => h) (by rfl) hHeld ?_
      try simp only [Act.put, List.setIfInBounds_toArray, List.set_cons_zero, List.set_cons_succ]
      refine pass_op (i := 19) (d := 38) rfl rfl (by kernel_rfl) (by kernel_rfl) (by kernel_rfl) (fun _ _ _ h => h) (by rfl) hHeld ?_
      try simp only [Act.put, List.setIfInBounds_toArray, List.set_cons_zero, List.set_cons_succ]
      refine pass_op (i := 20) (d := 39) rfl rfl (by kernel_rfl) (by kernel_rfl) (by kernel_rfl) (fun _ _ _ h => h) (by rfl) hHeld ?_
      try simp only [Act.put, List.setIfInBounds_toArray, List.set_cons_zero, List.set_cons_succ]
      refine pass_op (i := 21) (d := 40) rfl rfl (by kernel_rfl) (by kernel_rfl) (by kernel_rfl) (fun _ _ _ h => h) (by rfl) hHeld ?_
      try simp only [Act.put, List.setIfInBounds_toArray, List.set_cons_zero, List.set_cons_succ]
      refine pass_op (i := 22) (d := 41) rfl rfl (by kernel_rfl) (by kernel_rfl) (by kernel_rfl) (fun _ _ _ h => h) (by rfl) hHeld ?_
      try simp only [Act.put, List.setIfInBounds_toArray, List.set_cons_zero, List.set_cons_succ]
      refine pass_op (i := 23) (d := 42) rfl rfl (by kernel_rfl) (by kernel_rfl) (by kernel_rfl) (fun _ _ _ h => h) (by rfl) hHeld ?_
      try simp only [Act.put, List.setIfInBounds_toArray, List.set_cons_zero, List.set_cons_succ]
      refine pass_op (i := 24) (d := 43) rfl rfl (by kernel_rfl) (by kernel_rfl) (by kernel_rfl) (fun _ _ _ h => h) (by rfl) hHeld ?_
      try simp only [Act.put, List.setIfInBounds_toArray, List.set_cons_zero, List.set_cons_succ]
      refine pass_op (i := 25) (d := 44) rfl rfl (by kernel_rfl) (by kernel_rfl) (by kernel_rfl) (fun _ _ _ h => h) (by rfl) hHeld ?_
      try simp only [Act.put, List.setIfInBounds_toArray, List.set_cons_zero, List.set_cons_succ]
      refine take_op (i := 26) (d := 45) (OP := Op.pick (Operand.tmp 34) (Operand.tmp 44) (Operand.const (Value.bool false))) (T := 4) (v := ?vzz45) rfl rfl rfl rfl (by kernel_rfl) (by kernel_rfl) (by kernel_rfl) (fun _ _ _ h => h) (by rfl) ?hzz45 hHeld ?rzz45
      case hzz45 => (intro w' hSw; (try dsimp only at hSw); go_simp <;> with_reducible rfl)
      try simp only [Act.put, List.setIfInBounds_toArray, List.set_cons_zero, List.set_cons_succ]
      refine take_op (i := 27) (d := 46) (OP := Op.pick (Operand.tmp 31) (Operand.const (Value.bool true)) (Operand.tmp 45)) (T := 4) (v := ?vzz46) rfl rfl rfl rfl (by kernel_rfl) (by kernel_rfl) (by kernel_rfl) (fun _ _ _ h => h) (by rfl) ?hzz46 hHeld ?rzz46
      case hzz46 => (intro w' hSw; (try dsimp only at hSw); go_simp <;> with_reducible rfl)
      try simp only [Act.put, List.setIfInBounds_toArray, List.set_cons_zero, List.set_cons_succ]
      refine wpAnyH_done (by kernel_rfl) ?_ _
      have HE := hide hHeld.2.2.2.2.2.2.2.2
      clear hHeld qd hS
      clear k30 k62 k16 H up HW hret HR
      first | go_meet | (go_wp2; go_meet)
      exact ⟨by first | (simp; done) | (simp [dC2]; done) | rfl, HE⟩
    obtain ⟨kk, hkk⟩ : ∃ kk, N = kk + 1 := ⟨N - 1, by omega⟩
    obtain ⟨y, hy⟩ : ∃ y, l[kk]? = some y := ⟨_, List.getElem?_eq_getElem (by rw [← H.out.1]; omega)⟩
    have hlast : l.getLast? = some y := by rw [List.getLast?_eq_getElem?, ← H.out.1, hkk]; exact hy
    have hv4 := H.out.2.2.1 y hlast
    have k63 := H.out.2.2.2.2.2.2.2.1 y (List.mem_of_getElem? hy)
    obtain ⟨CZ, hCZ⟩ : ∃ C, C = cmpT y.1 (g, r, l0, n0, i0) := ⟨_, rfl⟩
    simp only [← hCZ] at k63 hv4
    obtain ⟨eb, eo, hao, f0, f1, f2, f3, f4, -⟩ := (H.out.2.1.below HQ.out).cells hy
    have wz : IntKind.i64.wrap ((N : Int) - 1) = (kk : Int) := by rw [IntKind.wrap_i64]; omega
    have wkk : (kk : Int) < (N : Int) := by omega
    have gN : (0 : Int) < (N : Int) := by omega
    have gN' : decide (0 < N) = true := by simpa using (by omega : 0 < N)
    subst hao
    obtain ⟨⟨g1, r1, l1, n1, i1⟩, t1⟩ := y
    dsimp only at f0 f1 f2 f3 f4 k63
    clear hy hlast hkk hN0 hCZ
    by_cases hz : CZ < 0
    · have dz : decide ((0 : Int) ≤ CZ) = false := by simpa using (by omega : ¬ (0 : Int) ≤ CZ)
      have dz' : ¬ (0 : Int) ≤ CZ := by omega
      rw [decide_eq_true hz] at hv4
      subst hv4
      have hS : wq.cell? ⟨B3, 0, none⟩ = some (.int .i64 k) ∧ wq.cell? ⟨B3, 1, none⟩ = some (.int .i64 n) ∧ wq.cell? ⟨B3, 2, none⟩ = some (.slice (some ⟨eb, eo, none⟩) N c) ∧ wq.cell? ⟨B4, 0, none⟩ = some (.int .i64 g) ∧ wq.cell? ⟨B4, 1, none⟩ = some (.int .i64 r) ∧ wq.cell? ⟨B4, 2, none⟩ = some (.string l0) ∧ wq.cell? ⟨B4, 3, none⟩ = some (.int .i64 n0) ∧ wq.cell? ⟨B4, 4, none⟩ = some (.int .i64 i0) ∧ wq.cell? ⟨eb, eo + kk * 6, none⟩ = some (.int .i64 g1) ∧ wq.cell? ⟨eb, eo + kk * 6 + 1, none⟩ = some (.int .i64 r1) ∧ wq.cell? ⟨eb, eo + kk * 6 + 2, none⟩ = some (.string l1) ∧ wq.cell? ⟨eb, eo + kk * 6 + 3, none⟩ = some (.int .i64 n1) ∧ wq.cell? ⟨eb, eo + kk * 6 + 4, none⟩ = some (.int .i64 i1) ∧ Below w1.heap.size w1 wq := ⟨x0, x1, x2, y0, y1, y2, y3, y4, f0, f1, f2, f3, f4, HQ.out⟩
      have qd : wq.drew.cell? ⟨B3, 0, none⟩ = some (.int .i64 k) ∧ wq.drew.cell? ⟨B3, 1, none⟩ = some (.int .i64 n) ∧ wq.drew.cell? ⟨B3, 2, none⟩ = some (.slice (some ⟨eb, eo, none⟩) N c) ∧ wq.drew.cell? ⟨B4, 0, none⟩ = some (.int .i64 g) ∧ wq.drew.cell? ⟨B4, 1, none⟩ = some (.int .i64 r) ∧ wq.drew.cell? ⟨B4, 2, none⟩ = some (.string l0) ∧ wq.drew.cell? ⟨B4, 3, none⟩ = some (.int .i64 n0) ∧ wq.drew.cell? ⟨B4, 4, none⟩ = some (.int .i64 i0) ∧ wq.drew.cell? ⟨eb, eo + kk * 6, none⟩ = some (.int .i64 g1) ∧ wq.drew.cell? ⟨eb, eo + kk * 6 + 1, none⟩ = some (.int .i64 r1) ∧ wq.drew.cell? ⟨eb, eo + kk * 6 + 2, none⟩ = some (.string l1) ∧ wq.drew.cell? ⟨eb, eo + kk * 6 + 3, none⟩ = some (.int .i64 n1) ∧ wq.drew.cell? ⟨eb, eo + kk * 6 + 4, none⟩ = some (.int .i64 i1) ∧ Below w1.heap.size w1 wq.drew := ⟨cell_stays hS.1 (drew_below wq), cell_stays hS.2.1 (drew_below wq), cell_stays hS.2.2.1 (drew_below wq), cell_stays hS.2.2.2.1 (drew_below wq), cell_stays hS.2.2.2.2.1 (drew_below wq), cell_stays hS.2.2.2.2.2.1 (drew_below wq), cell_stays hS.2.2.2.2.2.2.1 (drew_below wq), cell_stays hS.2.2.2.2.2.2.2.1 (drew_below wq), cell_stays hS.2.2.2.2.2.2.2.2.1 (drew_below wq), cell_stays hS.2.2.2.2.2.2.2.2.2.1 (drew_below wq), cell_stays hS.2.2.2.2.2.2.2.2.2.2.1 (drew_below wq), cell_stays hS.2.2.2.2.2.2.2.2.2.2.2.1 (drew_below wq), cell_stays hS.2.2.2.2.2.2.2.2.2.2.2.2.1 (drew_below wq), nextB hS.2.2.2.2.2.2.2.2.2.2.2.2.2 (drew_below wq)⟩
      refine wp_region_held_drew (S := (fun w' => w'.cell? ⟨B3, 0, none⟩ = some (.int .i64 k) ∧ w'.cell? ⟨B3, 1, none⟩ = some (.int .i64 n) ∧ w'.cell? ⟨B3, 2, none⟩ = some (.slice (some ⟨eb, eo, none⟩) N c) ∧ w'.cell? ⟨B4, 0, none⟩ = some (.int .i64 g) ∧ w'.cell? ⟨B4, 1, none⟩ = some (.int .i64 r) ∧ w'.cell? ⟨B4, 2, none⟩ = some (.string l0) ∧ w'.cell? ⟨B4, 3, none⟩ = some (.int .i64 n0) ∧ w'.cell? ⟨B4, 4, none⟩ = some (.int .i64 i0) ∧ w'.cell? ⟨eb, eo + kk * 6, none⟩ = some (.int .i64 g1) ∧ w'.cell? ⟨eb, eo + kk * 6 + 1, none⟩ = some (.int .i64 r1) ∧ w'.cell? ⟨eb, eo + kk * 6 + 2, none⟩ = some (.string l1) ∧ w'.cell? ⟨eb, eo + kk * 6 + 3, none⟩ = some (.int .i64 n1) ∧ w'.cell? ⟨eb, eo + kk * 6 + 4, none⟩ = some (.int .i64 i1) ∧ Below w1.heap.size w1 w')) (by kernel_rfl) qd (fun hHeld => ?_)
      try dsimp only at hHeld
      refine take_op (i := 0) (d := 19) (OP := Op.load 46 (Operand.tmp 3)) (T := 46) (v := ?vzz47) rfl rfl rfl rfl (by kernel_rfl) (by kernel_rfl) (by kernel_rfl) (fun _ _ _ h => h) (by rfl) ?hzz47 hHeld ?rzz47
      case hzz47 => (intro w' hSw; (try dsimp only at hSw); go_simp <;> with_reducible rfl)
      try simp only [Act.put, List.setIfInBounds_toArray, List.set_cons_zero, List.set_cons_succ]
      refine call_op (i := 1) (d := 20) (OP := Op.call { callee := Callee.value (Operand.func 30), args := #[Operand.tmp 19], argTypes := #[46] }) (T := 4) (f := 30) (args := #[vv k n (some ⟨eb, eo, none⟩) N c]) rfl rfl rfl rfl (by kernel_rfl) (by rfl) (by go_simp) ?_
      refine (k30 _ hHeld.2.2.2.2.2.2.2.2.2.2.2.2.2).mono ?_
      rintro e z0 ⟨rfl, bz0⟩
      have qz0 : z0.cell? ⟨B3, 0, none⟩ = some (.int .i64 k) ∧ z0.cell? ⟨B3, 1, none⟩ = some (.int .i64 n) ∧ z0.cell? ⟨B3, 2, none⟩ = some (.slice (some ⟨eb, eo, none⟩) N c) ∧ z0.cell? ⟨B4, 0, none⟩ = some (.int .i64 g) ∧ z0.cell? ⟨B4, 1, none⟩ = some (.int .i64 r) ∧ z0.cell? ⟨B4, 2, none⟩ = some (.string l0) ∧ z0.cell? ⟨B4, 3, none⟩ = some (.int .i64 n0) ∧ z0.cell? ⟨B4, 4, none⟩ = some (.int .i64 i0) ∧ z0.cell? ⟨eb, eo + kk * 6, none⟩ = some (.int .i64 g1) ∧ z0.cell? ⟨eb, eo + kk * 6 + 1, none⟩ = some (.int .i64 r1) ∧ z0.cell? ⟨eb, eo + kk * 6 + 2, none⟩ = some (.string l1) ∧ z0.cell? ⟨eb, eo + kk * 6 + 3, none⟩ = some (.int .i64 n1) ∧ z0.cell? ⟨eb, eo + kk * 6 + 4, none⟩ = some (.int .i64 i1) ∧ Below w1.heap.size w1 z0 := ⟨cell_stays hHeld.1 bz0, cell_stays hHeld.2.1 bz0, cell_stays hHeld.2.2.1 bz0, cell_stays hHeld.2.2.2.1 bz0, cell_stays hHeld.2.2.2.2.1 bz0, cell_stays hHeld.2.2.2.2.2.1 bz0, cell_stays hHeld.2.2.2.2.2.2.1 bz0, cell_stays hHeld.2.2.2.2.2.2.2.1 bz0, cell_stays hHeld.2.2.2.2.2.2.2.2.1 bz0, cell_stays hHeld.2.2.2.2.2.2.2.2.2.1 bz0, cell_stays hHeld.2.2.2.2.2.2.2.2.2.2.1 bz0, cell_stays hHeld.2.2.2.2.2.2.2.2.2.2.2.1 bz0, cell_stays hHeld.2.2.2.2.2.2.2.2.2.2.2.2.1 bz0, nextB hHeld.2.2.2.2.2.2.2.2.2.2.2.2.2 bz0⟩
      refine ⟨_, rfl, qz0, ?_⟩
      replace hHeld := qz0
      try simp only [Act.put, List.setIfInBounds_toArray, List.set_cons_zero, List.set_cons_succ]
      refine take_op (i := 2) (d := 21) (OP := Op.unOp UnOp.not 4 (Operand.tmp 20)) (T := 4) (v := ?vzz48) rfl rfl rfl rfl (by kernel_rfl) (by kernel_rfl) (by kernel_rfl) (fun _ _ _ h => h) (by rfl) ?hzz48 hHeld ?rzz48
      case hzz48 => (intro w' hSw; (try dsimp only at hSw); go_simp <;> with_reducible rfl)
      try simp only [Act.put, List.setIfInBounds_toArray, List.set_cons_zero, List.set_cons_succ]
      refine take_op (i := 3) (d := 22) (OP := Op.move (Operand.tmp 21)) (T := 4) (v := ?vzz49) rfl rfl rfl rfl (by kernel_rfl) (by kernel_rfl) (by kernel_rfl) (fun _ _ _ h => h) (by rfl) ?hzz49 hHeld ?rzz49
      case hzz49 => (intro w' hSw; (try dsimp only at hSw); go_simp <;> with_reducible rfl)
      try simp only [Act.put, List.setIfInBounds_toArray, List.set_cons_zero, List.set_cons_succ]
      refine take_op (i := 4) (d := 23) (OP := Op.load 52 (Operand.tmp 4)) (T := 52) (v := ?vzz50) rfl rfl rfl rfl (by kernel_rfl) (by kernel_rfl) (by kernel_rfl) (fun _ _ _ h => h) (by rfl) ?hzz50 hHeld ?rzz50
      case hzz50 => (intro w' hSw; (try dsimp only at hSw); go_simp <;> with_reducible rfl)
      try simp only [Act.put, List.setIfInBounds_toArray, List.set_cons_zero, List.set_cons_succ]
      refine call_op (i := 5) (d := 24) (OP := Op.call { callee := Callee.value (Operand.func 62), args := #[Operand.tmp 23], argTypes := #[52] }) (T := 4) (f := 62) (args := #[.agg #[.int .i64 g, .int .i64 r, .string l0, .int .i64 n0, .int .i64 i0]]) rfl rfl rfl rfl (by kernel_rfl) (by rfl) (by go_simp) ?_
      refine (k62 _).mono ?_
      rintro e z1 ⟨rfl, bz1⟩
      have qz1 : z1.cell? ⟨B3, 0, none⟩ = some (.int .i64 k) ∧ z1.cell? ⟨B3, 1, none⟩ = some (.int .i64 n) ∧ z1.cell? ⟨B3, 2, none⟩ = some (.slice (some ⟨eb, eo, none⟩) N c) ∧ z1.cell? ⟨B4, 0, none⟩ = some (.int .i64 g) ∧ z1.cell? ⟨B4, 1, none⟩ = some (.int .i64 r) ∧ z1.cell? ⟨B4, 2, none⟩ = some (.string l0) ∧ z1.cell? ⟨B4, 3, none⟩ = some (.int .i64 n0) ∧ z1.cell? ⟨B4, 4, none⟩ = some (.int .i64 i0) ∧ z1.cell? ⟨eb, eo + kk * 6, none⟩ = some (.int .i64 g1) ∧ z1.cell? ⟨eb, eo + kk * 6 + 1, none⟩ = some (.int .i64 r1) ∧ z1.cell? ⟨eb, eo + kk * 6 + 2, none⟩ = some (.string l1) ∧ z1.cell? ⟨eb, eo + kk * 6 + 3, none⟩ = some (.int .i64 n1) ∧ z1.cell? ⟨eb, eo + kk * 6 + 4, none⟩ = some (.int .i64 i1) ∧ Below w1.heap.size w1 z1 := ⟨cell_stays hHeld.1 bz1, cell_stays hHeld.2.1 bz1, cell_stays hHeld.2.2.1 bz1, cell_stays hHeld.2.2.2.1 bz1, cell_stays hHeld.2.2.2.2.1 bz1, cell_stays hHeld.2.2.2.2.2.1 bz1, cell_stays hHeld.2.2.2.2.2.2.1 bz1, cell_stays hHeld.2.2.2.2.2.2.2.1 bz1, cell_stays hHeld.2.2.2.2.2.2.2.2.1 bz1, cell_stays hHeld.2.2.2.2.2.2.2.2.2.1 bz1, cell_stays hHeld.2.2.2.2.2.2.2.2.2.2.1 bz1, cell_stays hHeld.2.2.2.2.2.2.2.2.2.2.2.1 bz1, cell_stays hHeld.2.2.2.2.2.2.2.2.2.2.2.2.1 bz1, nextB hHeld.2.2.2.2.2.2.2.2.2.2.2.2.2 bz1⟩
      refine ⟨_, rfl, qz1, ?_⟩
      replace hHeld := qz1
      try simp only [Act.put, List.setIfInBounds_toArray, List.set_cons_zero, List.set_cons_succ]
      refine take_op (i := 6) (d := 25) (OP := Op.unOp UnOp.not 4 (Operand.tmp 24)) (T := 4) (v := ?vzz51) rfl rfl rfl rfl (by kernel_rfl) (by kernel_rfl) (by kernel_rfl) (fun _ _ _ h => h) (by rfl) ?hzz51 hHeld ?rzz51
      case hzz51 => (intro w' hSw; (try dsimp only at hSw); go_simp <;> with_reducible rfl)
      try simp only [Act.put, List.setIfInBounds_toArray, List.set_cons_zero, List.set_cons_succ]
      refine take_op (i := 7) (d := 26) (OP := Op.pick (Operand.tmp 22) (Operand.const (Value.bool true)) (Operand.tmp 25)) (T := 4) (v := ?vzz52) rfl rfl rfl rfl (by kernel_rfl) (by kernel_rfl) (by kernel_rfl) (fun _ _ _ h => h) (by rfl) ?hzz52 hHeld ?rzz52
      case hzz52 => (intro w' hSw; (try dsimp only at hSw); go_simp <;> with_reducible rfl)
      try simp only [Act.put, List.setIfInBounds_toArray, List.set_cons_zero, List.set_cons_succ]
      refine take_op (i := 8) (d := 27) (OP := Op.move (Operand.tmp 26)) (T := 4) (v := ?vzz53) rfl rfl rfl rfl (by kernel_rfl) (by kernel_rfl) (by kernel_rfl) (fun _ _ _ h => h) (by rfl) ?hzz53 hHeld ?rzz53
      case hzz53 => (intro w' hSw; (try dsimp only at hSw); go_simp <;> with_reducible rfl)
      try simp only [Act.put, List.setIfInBounds_toArray, List.set_cons_zero, List.set_cons_succ]
      refine take_op (i := 9) (d := 28) (OP := Op.move (Operand.tmp 9)) (T := 3) (v := ?vzz54) rfl rfl rfl rfl (by kernel_rfl) (by kernel_rfl) (by kernel_rfl) (fun _ _ _ h => h) (by rfl) ?hzz54 hHeld ?rzz54
      case hzz54 => (intro w' hSw; (try dsimp only at hSw); go_simp <;> with_reducible rfl)
      try simp only [Act.put, List.setIfInBounds_toArray, List.set_cons_zero, List.set_cons_succ]
      refine take_op (i := 10) (d := 29) (OP := Op.binOp BinOp.eql 3 (Operand.tmp 28) (Operand.const (Value.int IntKind.i64 2)) 3) (T := 4) (v := .bool false) rfl rfl rfl rfl (by kernel_rfl) (by kernel_rfl) (by kernel_rfl) (fun _ _ _ h => h) (by rfl) ?hzz55 hHeld ?rzz55
      case hzz55 => (intro w' hSw; (try dsimp only at hSw); go_simp <;> (first | with_reducible rfl | (simp; done) | (simp; omega) | omega))
      try simp only [Act.put, List.setIfInBounds_toArray, List.set_cons_zero, List.set_cons_succ]
      refine take_op (i := 11) (d := 30) (OP := Op.pick (Operand.tmp 27) (Operand.const (Value.bool true)) (Operand.tmp 29)) (T := 4) (v := ?vzz56) rfl rfl rfl rfl (by kernel_rfl) (by kernel_rfl) (by kernel_rfl) (fun _ _ _ h => h) (by rfl) ?hzz56 hHeld ?rzz56
      case hzz56 => (intro w' hSw; (try dsimp only at hSw); go_simp <;> with_reducible rfl)
      try simp only [Act.put, List.setIfInBounds_toArray, List.set_cons_zero, List.set_cons_succ]
      refine take_op (i := 12) (d := 31) (OP := Op.move (Operand.tmp 30)) (T := 4) (v := ?vzz57) rfl rfl rfl rfl (by kernel_rfl) (by kernel_rfl) (by kernel_rfl) (fun _ _ _ h => h) (by rfl) ?hzz57 hHeld ?rzz57
      case hzz57 => (intro w' hSw; (try dsimp only at hSw); go_simp <;> with_reducible rfl)
      try simp only [Act.put, List.setIfInBounds_toArray, List.set_cons_zero, List.set_cons_succ]
      refine take_op (i := 13) (d := 32) (OP := Op.move (Operand.tmp 8)) (T := 3) (v := ?vzz58) rfl rfl rfl rfl (by kernel_rfl) (by kernel_rfl) (by kernel_rfl) (fun _ _ _ h => h) (by rfl) ?hzz58 hHeld ?rzz58
      case hzz58 => (intro w' hSw; (try dsimp only at hSw); go_simp <;> with_reducible rfl)
      try simp only [Act.put, List.setIfInBounds_toArray, List.set_cons_zero, List.set_cons_succ]
      refine take_op (i := 14) (d := 33) (OP := Op.binOp BinOp.gtr 3 (Operand.tmp 32) (Operand.const (Value.int IntKind.i64 0)) 3) (T := 4) (v := ?vzz59) rfl rfl rfl rfl (by kernel_rfl) (by kernel_rfl) (by kernel_rfl) (fun _ _ _ h => h) (by rfl) ?hzz59 hHeld ?rzz59
      case hzz59 => (intro w' hSw; (try dsimp only at hSw); go_simp <;> with_reducible rfl)
      try simp only [Act.put, List.setIfInBounds_toArray, List.set_cons_zero, List.set_cons_succ]
      refine take_op (i := 15) (d := 34) (OP := Op.move (Operand.tmp 33)) (T := 4) (v := ?vzz60) rfl rfl rfl rfl (by kernel_rfl) (by kernel_rfl) (by kernel_rfl) (fun _ _ _ h => h) (by rfl) ?hzz60 hHeld ?rzz60
      case hzz60 => (intro w' hSw; (try dsimp only at hSw); go_simp <;> with_reducible rfl)
      try simp only [Act.put, List.setIfInBounds_toArray, List.set_cons_zero, List.set_cons_succ]
      refine take_op (i := 16) (d := 35) (OP := Op.fieldAddr 46 (Operand.tmp 3) 2) (T := 0) (v := ?vzz61) rfl rfl rfl rfl (by kernel_rfl) (by kernel_rfl) (by kernel_rfl) (fun _ _ _ h => h) (by rfl) ?hzz61 hHeld ?rzz61
      case hzz61 => (intro w' hSw; (try dsimp only at hSw); go_simp <;> with_reducible rfl)
      try simp only [Act.put, List.setIfInBounds_toArray, List.set_cons_zero, List.set_cons_succ]
      refine take_op (i := 17) (d := 36) (OP := Op.load 44 (Operand.tmp 35)) (T := 44) (v := ?vzz62) rfl rfl rfl rfl (by kernel_rfl) (by kernel_rfl) (by kernel_rfl) (fun _ _ _ h => h) (by rfl) ?hzz62 hHeld ?rzz62
      case hzz62 => (intro w' hSw; (try dsimp only at hSw); go_simp <;> with_reducible rfl)
      try simp only [Act.put, List.setIfInBounds_toArray, List.set_cons_zero, List.set_cons_succ]
      refine take_op (i := 18) (d := 37) (OP := Op.move (Operand.tmp 8)) (T := 3) (v := ?vzz63) rfl rfl rfl rfl (by kernel_rfl) (by kernel_rfl) (by kernel_rfl) (fun _ _ _ h => h) (by rfl) ?hzz63 hHeld ?rzz63
      case hzz63 => (intro w' hSw; (try dsimp only at hSw); go_simp <;> with_reducible rfl)
      try simp only [Act.put, List.setIfInBounds_toArray, List.set_cons_zero, List.set_cons_succ]
      refine take_op (i := 19) (d := 38) (OP := Op.binOp BinOp.sub 3 (Operand.tmp 37) (Operand.const (Value.int IntKind.i64 1)) 3) (T := 3) (v := ?vzz64) rfl rfl rfl rfl (by kernel_rfl) (by kernel_rfl) (by kernel_rfl) (fun _ _ _ h => h) (by rfl) ?hzz64 hHeld ?rzz64
      case hzz64 => (intro w' hSw; (try dsimp only at hSw); go_simp <;> with_reducible rfl)
      try simp only [Act.put, List.setIfInBounds_toArray, List.set_cons_zero, List.set_cons_succ]
      refine take_op (i := 20) (d := 39) (OP := Op.indexAddr 44 (Operand.tmp 36) (Operand.tmp 38)) (T := 0) (v := ?vzz65) rfl rfl rfl rfl (by kernel_rfl) (by kernel_rfl) (by kernel_rfl) (fun _ _ _ h => h) (by rfl) ?hzz65 hHeld ?rzz65
      case hzz65 => (intro w' hSw; (try dsimp only at hSw); go_simp <;> with_reducible rfl)
      try simp only [Act.put, List.setIfInBounds_toArray, List.set_cons_zero, List.set_cons_succ]
      refine take_op (i := 21) (d := 40) (OP := Op.fieldAddr 77 (Operand.tmp 39) 0) (T := 0) (v := ?vzz66) rfl rfl rfl rfl (by kernel_rfl) (by kernel_rfl) (by kernel_rfl) (fun _ _ _ h => h) (by rfl) ?hzz66 hHeld ?rzz66
      case hzz66 => (intro w' hSw; (try dsimp only at hSw); go_simp <;> with_reducible rfl)
      try simp only [Act.put, List.setIfInBounds_toArray, List.set_cons_zero, List.set_cons_succ]
      refine take_op (i := 22) (d := 41) (OP := Op.load 52 (Operand.tmp 40)) (T := 52) (v := ?vzz67) rfl rfl rfl rfl (by kernel_rfl) (by kernel_rfl) (by kernel_rfl) (fun _ _ _ h => h) (by rfl) ?hzz67 hHeld ?rzz67
      case hzz67 => (intro w' hSw; (try dsimp only at hSw); go_simp <;> with_reducible rfl)
      try simp only [Act.put, List.setIfInBounds_toArray, List.set_cons_zero, List.set_cons_succ]
      refine take_op (i := 23) (d := 42) (OP := Op.load 52 (Operand.tmp 4)) (T := 52) (v := ?vzz68) rfl rfl rfl rfl (by kernel_rfl) (by kernel_rfl) (by kernel_rfl) (fun _ _ _ h => h) (by rfl) ?hzz68 hHeld ?rzz68
      case hzz68 => (intro w' hSw; (try dsimp only at hSw); go_simp <;> with_reducible rfl)
      try simp only [Act.put, List.setIfInBounds_toArray, List.set_cons_zero, List.set_cons_succ]
      refine call_op (i := 24) (d := 43) (OP := Op.call { callee := Callee.value (Operand.func 63), args := #[Operand.tmp 41, Operand.tmp 42], argTypes := #[52, 52] }) (T := 3) (f := 63) (args := #[.agg #[.int .i64 g1, .int .i64 r1, .string l1, .int .i64 n1, .int .i64 i1], .agg #[.int .i64 g, .int .i64 r, .string l0, .int .i64 n0, .int .i64 i0]]) rfl rfl rfl rfl (by kernel_rfl) (by rfl) (by go_simp) ?_
      refine (k63 _).mono ?_
      rintro e z2 ⟨rfl, bz2⟩
      have qz2 : z2.cell? ⟨B3, 0, none⟩ = some (.int .i64 k) ∧ z2.cell? ⟨B3, 1, none⟩ = some (.int .i64 n) ∧ z2.cell? ⟨B3, 2, none⟩ = some (.slice (some ⟨eb, eo, none⟩) N c) ∧ z2.cell? ⟨B4, 0, none⟩ = some (.int .i64 g) ∧ z2.cell? ⟨B4, 1, none⟩ = some (.int .i64 r) ∧ z2.cell? ⟨B4, 2, none⟩ = some (.string l0) ∧ z2.cell? ⟨B4, 3, none⟩ = some (.int .i64 n0) ∧ z2.cell? ⟨B4, 4, none⟩ = some (.int .i64 i0) ∧ z2.cell? ⟨eb, eo + kk * 6, none⟩ = some (.int .i64 g1) ∧ z2.cell? ⟨eb, eo + kk * 6 + 1, none⟩ = some (.int .i64 r1) ∧ z2.cell? ⟨eb, eo + kk * 6 + 2, none⟩ = some (.string l1) ∧ z2.cell? ⟨eb, eo + kk * 6 + 3, none⟩ = some (.int .i64 n1) ∧ z2.cell? ⟨eb, eo + kk * 6 + 4, none⟩ = some (.int .i64 i1) ∧ Below w1.heap.size w1 z2 := ⟨cell_stays hHeld.1 bz2, cell_stays hHeld.2.1 bz2, cell_stays hHeld.2.2.1 bz2, cell_stays hHeld.2.2.2.1 bz2, cell_stays hHeld.2.2.2.2.1 bz2, cell_stays hHeld.2.2.2.2.2.1 bz2, cell_stays hHeld.2.2.2.2.2.2.1 bz2, cell_stays hHeld.2.2.2.2.2.2.2.1 bz2, cell_stays hHeld.2.2.2.2.2.2.2.2.1 bz2, cell_stays hHeld.2.2.2.2.2.2.2.2.2.1 bz2, cell_stays hHeld.2.2.2.2.2.2.2.2.2.2.1 bz2, cell_stays hHeld.2.2.2.2.2.2.2.2.2.2.2.1 bz2, cell_stays hHeld.2.2.2.2.2.2.2.2.2.2.2.2.1 bz2, nextB hHeld.2.2.2.2.2.2.2.2.2.2.2.2.2 bz2⟩
      refine ⟨_, rfl, qz2, ?_⟩
      replace hHeld := qz2
      try simp only [Act.put, List.setIfInBounds_toArray, List.set_cons_zero, List.set_cons_succ]
      refine take_op (i := 25) (d := 44) (OP := Op.binOp BinOp.geq 3 (Operand.tmp 43) (Operand.const (Value.int IntKind.i64 0)) 3) (T := 4) (v := ?vzz69) rfl rfl rfl rfl (by kernel_rfl) (by kernel_rfl) (by kernel_rfl) (fun _ _ _ h => h) (by rfl) ?hzz69 hHeld ?rzz69
      case hzz69 => (intro w' hSw; (try dsimp only at hSw); go_simp <;> with_reducible rfl)
      try simp only [Act.put, List.setIfInBounds_toArray, List.set_cons_zero, List.set_cons_succ]
      refine take_op (i := 26) (d := 45) (OP := Op.pick (Operand.tmp 34) (Operand.tmp 44) (Operand.const (Value.bool false))) (T := 4) (v := ?vzz70) rfl rfl rfl rfl (by kernel_rfl) (by kernel_rfl) (by kernel_rfl) (fun _ _ _ h => h) (by rfl) ?hzz70 hHeld ?rzz70
      case hzz70 => (intro w' hSw; (try dsimp only at hSw); go_simp <;> with_reducible rfl)
      try simp only [Act.put, List.setIfInBounds_toArray, List.set_cons_zero, List.set_cons_succ]
      refine take_op (i := 27) (d := 46) (OP := Op.pick (Operand.tmp 31) (Operand.const (Value.bool true)) (Operand.tmp 45)) (T := 4) (v := ?vzz71) rfl rfl rfl rfl (by kernel_rfl) (by kernel_rfl) (by kernel_rfl) (fun _ _ _ h => h) (by rfl) ?hzz71 hHeld ?rzz71
      case hzz71 => (intro w' hSw; (try dsimp only at hSw); go_simp <;> with_reducible rfl)
      try simp only [Act.put, List.setIfInBounds_toArray, List.set_cons_zero, List.set_cons_succ]
      refine wpAnyH_done (by kernel_rfl) ?_ _
      have HE := hide hHeld.2.2.2.2.2.2.2.2.2.2.2.2.2
      clear hHeld qd hS wz wkk gN gN' dz dz' f0 f1 f2 f3 f4 k63
      clear k30 k62 k16 H up HW hret HR
      first | go_meet | (go_wp2; go_meet)
      exact ⟨by first | (simp; done) | (simp [dC2]; done) | rfl, HE⟩
    · have dz : decide ((0 : Int) ≤ CZ) = true := by simpa using (by omega : (0 : Int) ≤ CZ)
      have dz' : (0 : Int) ≤ CZ := by omega
      rw [decide_eq_false hz] at hv4
      subst hv4
      have hS : wq.cell? ⟨B3, 0, none⟩ = some (.int .i64 k) ∧ wq.cell? ⟨B3, 1, none⟩ = some (.int .i64 n) ∧ wq.cell? ⟨B3, 2, none⟩ = some (.slice (some ⟨eb, eo, none⟩) N c) ∧ wq.cell? ⟨B4, 0, none⟩ = some (.int .i64 g) ∧ wq.cell? ⟨B4, 1, none⟩ = some (.int .i64 r) ∧ wq.cell? ⟨B4, 2, none⟩ = some (.string l0) ∧ wq.cell? ⟨B4, 3, none⟩ = some (.int .i64 n0) ∧ wq.cell? ⟨B4, 4, none⟩ = some (.int .i64 i0) ∧ wq.cell? ⟨eb, eo + kk * 6, none⟩ = some (.int .i64 g1) ∧ wq.cell? ⟨eb, eo + kk * 6 + 1, none⟩ = some (.int .i64 r1) ∧ wq.cell? ⟨eb, eo + kk * 6 + 2, none⟩ = some (.string l1) ∧ wq.cell? ⟨eb, eo + kk * 6 + 3, none⟩ = some (.int .i64 n1) ∧ wq.cell? ⟨eb, eo + kk * 6 + 4, none⟩ = some (.int .i64 i1) ∧ Below w1.heap.size w1 wq := ⟨x0, x1, x2, y0, y1, y2, y3, y4, f0, f1, f2, f3, f4, HQ.out⟩
      have qd : wq.drew.cell? ⟨B3, 0, none⟩ = some (.int .i64 k) ∧ wq.drew.cell? ⟨B3, 1, none⟩ = some (.int .i64 n) ∧ wq.drew.cell? ⟨B3, 2, none⟩ = some (.slice (some ⟨eb, eo, none⟩) N c) ∧ wq.drew.cell? ⟨B4, 0, none⟩ = some (.int .i64 g) ∧ wq.drew.cell? ⟨B4, 1, none⟩ = some (.int .i64 r) ∧ wq.drew.cell? ⟨B4, 2, none⟩ = some (.string l0) ∧ wq.drew.cell? ⟨B4, 3, none⟩ = some (.int .i64 n0) ∧ wq.drew.cell? ⟨B4, 4, none⟩ = some (.int .i64 i0) ∧ wq.drew.cell? ⟨eb, eo + kk * 6, none⟩ = some (.int .i64 g1) ∧ wq.drew.cell? ⟨eb, eo + kk * 6 + 1, none⟩ = some (.int .i64 r1) ∧ wq.drew.cell? ⟨eb, eo + kk * 6 + 2, none⟩ = some (.string l1) ∧ wq.drew.cell? ⟨eb, eo + kk * 6 + 3, none⟩ = some (.int .i64 n1) ∧ wq.drew.cell? ⟨eb, eo + kk * 6 + 4, none⟩ = some (.int .i64 i1) ∧ Below w1.heap.size w1 wq.drew := ⟨cell_stays hS.1 (drew_below wq), cell_stays hS.2.1 (drew_below wq), cell_stays hS.2.2.1 (drew_below wq), cell_stays hS.2.2.2.1 (drew_below wq), cell_stays hS.2.2.2.2.1 (drew_below wq), cell_stays hS.2.2.2.2.2.1 (drew_below wq), cell_stays hS.2.2.2.2.2.2.1 (drew_below wq), cell_stays hS.2.2.2.2.2.2.2.1 (drew_below wq), cell_stays hS.2.2.2.2.2.2.2.2.1 (drew_below wq), cell_stays hS.2.2.2.2.2.2.2.2.2.1 (drew_below wq), cell_stays hS.2.2.2.2.2.2.2.2.2.2.1 (drew_below wq), cell_stays hS.2.2.2.2.2.2.2.2.2.2.2.1 (drew_below wq), cell_stays hS.2.2.2.2.2.2.2.2.2.2.2.2.1 (drew_below wq), nextB hS.2.2.2.2.2.2.2.2.2.2.2.2.2 (drew_below wq)⟩
      refine wp_region_held_drew (S := (fun w' => w'.cell? ⟨B3, 0, none⟩ = some (.int .i64 k) ∧ w'.cell? ⟨B3, 1, none⟩ = some (.int .i64 n) ∧ w'.cell? ⟨B3, 2, none⟩ = some (.slice (some ⟨eb, eo, none⟩) N c) ∧ w'.cell? ⟨B4, 0, none⟩ = some (.int .i64 g) ∧ w'.cell? ⟨B4, 1, none⟩ = some (.int .i64 r) ∧ w'.cell? ⟨B4, 2, none⟩ = some (.string l0) ∧ w'.cell? ⟨B4, 3, none⟩ = some (.int .i64 n0) ∧ w'.cell? ⟨B4, 4, none⟩ = some (.int .i64 i0) ∧ w'.cell? ⟨eb, eo + kk * 6, none⟩ = some (.int .i64 g1) ∧ w'.cell? ⟨eb, eo + kk * 6 + 1, none⟩ = some (.int .i64 r1) ∧ w'.cell? ⟨eb, eo + kk * 6 + 2, none⟩ = some (.string l1) ∧ w'.cell? ⟨eb, eo + kk * 6 + 3, none⟩ = some (.int .i64 n1) ∧ w'.cell? ⟨eb, eo + kk * 6 + 4, none⟩ = some (.int .i64 i1) ∧ Below w1.heap.size w1 w')) (by kernel_rfl) qd (fun hHeld => ?_)
      try dsimp only at hHeld
      refine take_op (i := 0) (d := 19) (OP := Op.load 46 (Operand.tmp 3)) (T := 46) (v := ?vzz72) rfl rfl rfl rfl (by kernel_rfl) (by kernel_rfl) (by kernel_rfl) (fun _ _ _ h => h) (by rfl) ?hzz72 hHeld ?rzz72
      case hzz72 => (intro w' hSw; (try dsimp only at hSw); go_simp <;> with_reducible rfl)
      try simp only [Act.put, List.setIfInBounds_toArray, List.set_cons_zero, List.set_cons_succ]
      refine call_op (i := 1) (d := 20) (OP := Op.call { callee := Callee.value (Operand.func 30), args := #[Operand.tmp 19], argTypes := #[46] }) (T := 4) (f := 30) (args := #[vv k n (some ⟨eb, eo, none⟩) N c]) rfl rfl rfl rfl (by kernel_rfl) (by rfl) (by go_simp) ?_
      refine (k30 _ hHeld.2.2.2.2.2.2.2.2.2.2.2.2.2).mono ?_
      rintro e z0 ⟨rfl, bz0⟩
      have qz0 : z0.cell? ⟨B3, 0, none⟩ = some (.int .i64 k) ∧ z0.cell? ⟨B3, 1, none⟩ = some (.int .i64 n) ∧ z0.cell? ⟨B3, 2, none⟩ = some (.slice (some ⟨eb, eo, none⟩) N c) ∧ z0.cell? ⟨B4, 0, none⟩ = some (.int .i64 g) ∧ z0.cell? ⟨B4, 1, none⟩ = some (.int .i64 r) ∧ z0.cell? ⟨B4, 2, none⟩ = some (.string l0) ∧ z0.cell? ⟨B4, 3, none⟩ = some (.int .i64 n0) ∧ z0.cell? ⟨B4, 4, none⟩ = some (.int .i64 i0) ∧ z0.cell? ⟨eb, eo + kk * 6, none⟩ = some (.int .i64 g1) ∧ z0.cell? ⟨eb, eo + kk * 6 + 1, none⟩ = some (.int .i64 r1) ∧ z0.cell? ⟨eb, eo + kk * 6 + 2, none⟩ = some (.string l1) ∧ z0.cell? ⟨eb, eo + kk * 6 + 3, none⟩ = some (.int .i64 n1) ∧ z0.cell? ⟨eb, eo + kk * 6 + 4, none⟩ = some (.int .i64 i1) ∧ Below w1.heap.size w1 z0 := ⟨cell_stays hHeld.1 bz0, cell_stays hHeld.2.1 bz0, cell_stays hHeld.2.2.1 bz0, cell_stays hHeld.2.2.2.1 bz0, cell_stays hHeld.2.2.2.2.1 bz0, cell_stays hHeld.2.2.2.2.2.1 bz0, cell_stays hHeld.2.2.2.2.2.2.1 bz0, cell_stays hHeld.2.2.2.2.2.2.2.1 bz0, cell_stays hHeld.2.2.2.2.2.2.2.2.1 bz0, cell_stays hHeld.2.2.2.2.2.2.2.2.2.1 bz0, cell_stays hHeld.2.2.2.2.2.2.2.2.2.2.1 bz0, cell_stays hHeld.2.2.2.2.2.2.2.2.2.2.2.1 bz0, cell_stays hHeld.2.2.2.2.2.2.2.2.2.2.2.2.1 bz0, nextB hHeld.2.2.2.2.2.2.2.2.2.2.2.2.2 bz0⟩
      refine ⟨_, rfl, qz0, ?_⟩
      replace hHeld := qz0
      try simp only [Act.put, List.setIfInBounds_toArray, List.set_cons_zero, List.set_cons_succ]
      refine take_op (i := 2) (d := 21) (OP := Op.unOp UnOp.not 4 (Operand.tmp 20)) (T := 4) (v := ?vzz73) rfl rfl rfl rfl (by kernel_rfl) (by kernel_rfl) (by kernel_rfl) (fun _ _ _ h => h) (by rfl) ?hzz73 hHeld ?rzz73
      case hzz73 => (intro w' hSw; (try dsimp only at hSw); go_simp <;> with_reducible rfl)
      try simp only [Act.put, List.setIfInBounds_toArray, List.set_cons_zero, List.set_cons_succ]
      refine take_op (i := 3) (d := 22) (OP := Op.move (Operand.tmp 21)) (T := 4) (v := ?vzz74) rfl rfl rfl rfl (by kernel_rfl) (by kernel_rfl) (by kernel_rfl) (fun _ _ _ h => h) (by rfl) ?hzz74 hHeld ?rzz74
      case hzz74 => (intro w' hSw; (try dsimp only at hSw); go_simp <;> with_reducible rfl)
      try simp only [Act.put, List.setIfInBounds_toArray, List.set_cons_zero, List.set_cons_succ]
      refine take_op (i := 4) (d := 23) (OP := Op.load 52 (Operand.tmp 4)) (T := 52) (v := ?vzz75) rfl rfl rfl rfl (by kernel_rfl) (by kernel_rfl) (by kernel_rfl) (fun _ _ _ h => h) (by rfl) ?hzz75 hHeld ?rzz75
      case hzz75 => (intro w' hSw; (try dsimp only at hSw); go_simp <;> with_reducible rfl)
      try simp only [Act.put, List.setIfInBounds_toArray, List.set_cons_zero, List.set_cons_succ]
      refine call_op (i := 5) (d := 24) (OP := Op.call { callee := Callee.value (Operand.func 62), args := #[Operand.tmp 23], argTypes := #[52] }) (T := 4) (f := 62) (args := #[.agg #[.int .i64 g, .int .i64 r, .string l0, .int .i64 n0, .int .i64 i0]]) rfl rfl rfl rfl (by kernel_rfl) (by rfl) (by go_simp) ?_
      refine (k62 _).mono ?_
      rintro e z1 ⟨rfl, bz1⟩
      have qz1 : z1.cell? ⟨B3, 0, none⟩ = some (.int .i64 k) ∧ z1.cell? ⟨B3, 1, none⟩ = some (.int .i64 n) ∧ z1.cell? ⟨B3, 2, none⟩ = some (.slice (some ⟨eb, eo, none⟩) N c) ∧ z1.cell? ⟨B4, 0, none⟩ = some (.int .i64 g) ∧ z1.cell? ⟨B4, 1, none⟩ = some (.int .i64 r) ∧ z1.cell? ⟨B4, 2, none⟩ = some (.string l0) ∧ z1.cell? ⟨B4, 3, none⟩ = some (.int .i64 n0) ∧ z1.cell? ⟨B4, 4, none⟩ = some (.int .i64 i0) ∧ z1.cell? ⟨eb, eo + kk * 6, none⟩ = some (.int .i64 g1) ∧ z1.cell? ⟨eb, eo + kk * 6 + 1, none⟩ = some (.int .i64 r1) ∧ z1.cell? ⟨eb, eo + kk * 6 + 2, none⟩ = some (.string l1) ∧ z1.cell? ⟨eb, eo + kk * 6 + 3, none⟩ = some (.int .i64 n1) ∧ z1.cell? ⟨eb, eo + kk * 6 + 4, none⟩ = some (.int .i64 i1) ∧ Below w1.heap.size w1 z1 := ⟨cell_stays hHeld.1 bz1, cell_stays hHeld.2.1 bz1, cell_stays hHeld.2.2.1 bz1, cell_stays hHeld.2.2.2.1 bz1, cell_stays hHeld.2.2.2.2.1 bz1, cell_stays hHeld.2.2.2.2.2.1 bz1, cell_stays hHeld.2.2.2.2.2.2.1 bz1, cell_stays hHeld.2.2.2.2.2.2.2.1 bz1, cell_stays hHeld.2.2.2.2.2.2.2.2.1 bz1, cell_stays hHeld.2.2.2.2.2.2.2.2.2.1 bz1, cell_stays hHeld.2.2.2.2.2.2.2.2.2.2.1 bz1, cell_stays hHeld.2.2.2.2.2.2.2.2.2.2.2.1 bz1, cell_stays hHeld.2.2.2.2.2.2.2.2.2.2.2.2.1 bz1, nextB hHeld.2.2.2.2.2.2.2.2.2.2.2.2.2 bz1⟩
      refine ⟨_, rfl, qz1, ?_⟩
      replace hHeld := qz1
      try simp only [Act.put, List.setIfInBounds_toArray, List.set_cons_zero, List.set_cons_succ]
      refine take_op (i := 6) (d := 25) (OP := Op.unOp UnOp.not 4 (Operand.tmp 24)) (T := 4) (v := ?vzz76) rfl rfl rfl rfl (by kernel_rfl) (by kernel_rfl) (by kernel_rfl) (fun _ _ _ h => h) (by rfl) ?hzz76 hHeld ?rzz76
      case hzz76 => (intro w' hSw; (try dsimp only at hSw); go_simp <;> with_reducible rfl)
      try simp only [Act.put, List.setIfInBounds_toArray, List.set_cons_zero, List.set_cons_succ]
      refine take_op (i := 7) (d := 26) (OP := Op.pick (Operand.tmp 22) (Operand.const (Value.bool true)) (Operand.tmp 25)) (T := 4) (v := ?vzz77) rfl rfl rfl rfl (by kernel_rfl) (by kernel_rfl) (by kernel_rfl) (fun _ _ _ h => h) (by rfl) ?hzz77 hHeld ?rzz77
      case hzz77 => (intro w' hSw; (try dsimp only at hSw); go_simp <;> with_reducible rfl)
      try simp only [Act.put, List.setIfInBounds_toArray, List.set_cons_zero, List.set_cons_succ]
      refine take_op (i := 8) (d := 27) (OP := Op.move (Operand.tmp 26)) (T := 4) (v := ?vzz78) rfl rfl rfl rfl (by kernel_rfl) (by kernel_rfl) (by kernel_rfl) (fun _ _ _ h => h) (by rfl) ?hzz78 hHeld ?rzz78
      case hzz78 => (intro w' hSw; (try dsimp only at hSw); go_simp <;> with_reducible rfl)
      try simp only [Act.put, List.setIfInBounds_toArray, List.set_cons_zero, List.set_cons_succ]
      refine take_op (i := 9) (d := 28) (OP := Op.move (Operand.tmp 9)) (T := 3) (v := ?vzz79) rfl rfl rfl rfl (by kernel_rfl) (by kernel_rfl) (by kernel_rfl) (fun _ _ _ h => h) (by rfl) ?hzz79 hHeld ?rzz79
      case hzz79 => (intro w' hSw; (try dsimp only at hSw); go_simp <;> with_reducible rfl)
      try simp only [Act.put, List.setIfInBounds_toArray, List.set_cons_zero, List.set_cons_succ]
      refine take_op (i := 10) (d := 29) (OP := Op.binOp BinOp.eql 3 (Operand.tmp 28) (Operand.const (Value.int IntKind.i64 2)) 3) (T := 4) (v := .bool false) rfl rfl rfl rfl (by kernel_rfl) (by kernel_rfl) (by kernel_rfl) (fun _ _ _ h => h) (by rfl) ?hzz80 hHeld ?rzz80
      case hzz80 => (intro w' hSw; (try dsimp only at hSw); go_simp <;> (first | with_reducible rfl | (simp; done) | (simp; omega) | omega))
      try simp only [Act.put, List.setIfInBounds_toArray, List.set_cons_zero, List.set_cons_succ]
      refine take_op (i := 11) (d := 30) (OP := Op.pick (Operand.tmp 27) (Operand.const (Value.bool true)) (Operand.tmp 29)) (T := 4) (v := ?vzz81) rfl rfl rfl rfl (by kernel_rfl) (by kernel_rfl) (by kernel_rfl) (fun _ _ _ h => h) (by rfl) ?hzz81 hHeld ?rzz81
      case hzz81 => (intro w' hSw; (try dsimp only at hSw); go_simp <;> with_reducible rfl)
      try simp only [Act.put, List.setIfInBounds_toArray, List.set_cons_zero, List.set_cons_succ]
      refine take_op (i := 12) (d := 31) (OP := Op.move (Operand.tmp 30)) (T := 4) (v := ?vzz82) rfl rfl rfl rfl (by kernel_rfl) (by kernel_rfl) (by kernel_rfl) (fun _ _ _ h => h) (by rfl) ?hzz82 hHeld ?rzz82
      case hzz82 => (intro w' hSw; (try dsimp only at hSw); go_simp <;> with_reducible rfl)
      try simp only [Act.put, List.setIfInBounds_toArray, List.set_cons_zero, List.set_cons_succ]
      refine take_op (i := 13) (d := 32) (OP := Op.move (Operand.tmp 8)) (T := 3) (v := ?vzz83) rfl rfl rfl rfl (by kernel_rfl) (by kernel_rfl) (by kernel_rfl) (fun _ _ _ h => h) (by rfl) ?hzz83 hHeld ?rzz83
      case hzz83 => (intro w' hSw; (try dsimp only at hSw); go_simp <;> with_reducible rfl)
      try simp only [Act.put, List.setIfInBounds_toArray, List.set_cons_zero, List.set_cons_succ]
      refine take_op (i := 14) (d := 33) (OP := Op.binOp BinOp.gtr 3 (Operand.tmp 32) (Operand.const (Value.int IntKind.i64 0)) 3) (T := 4) (v := ?vzz84) rfl rfl rfl rfl (by kernel_rfl) (by kernel_rfl) (by kernel_rfl) (fun _ _ _ h => h) (by rfl) ?hzz84 hHeld ?rzz84
      case hzz84 => (intro w' hSw; (try dsimp only at hSw); go_simp <;> with_reducible rfl)
      try simp only [Act.put, List.setIfInBounds_toArray, List.set_cons_zero, List.set_cons_succ]
      refine take_op (i := 15) (d := 34) (OP := Op.move (Operand.tmp 33)) (T := 4) (v := ?vzz85) rfl rfl rfl rfl (by kernel_rfl) (by kernel_rfl) (by kernel_rfl) (fun _ _ _ h => h) (by rfl) ?hzz85 hHeld ?rzz85
      case hzz85 => (intro w' hSw; (try dsimp only at hSw); go_simp <;> with_reducible rfl)
      try simp only [Act.put, List.setIfInBounds_toArray, List.set_cons_zero, List.set_cons_succ]
      refine take_op (i := 16) (d := 35) (OP := Op.fieldAddr 46 (Operand.tmp 3) 2) (T := 0) (v := ?vzz86) rfl rfl rfl rfl (by kernel_rfl) (by kernel_rfl) (by kernel_rfl) (fun _ _ _ h => h) (by rfl) ?hzz86 hHeld ?rzz86
      case hzz86 => (intro w' hSw; (try dsimp only at hSw); go_simp <;> with_reducible rfl)
      try simp only [Act.put, List.setIfInBounds_toArray, List.set_cons_zero, List.set_cons_succ]
      refine take_op (i := 17) (d := 36) (OP := Op.load 44 (Operand.tmp 35)) (T := 44) (v := ?vzz87) rfl rfl rfl rfl (by kernel_rfl) (by kernel_rfl) (by kernel_rfl) (fun _ _ _ h => h) (by rfl) ?hzz87 hHeld ?rzz87
      case hzz87 => (intro w' hSw; (try dsimp only at hSw); go_simp <;> with_reducible rfl)
      try simp only [Act.put, List.setIfInBounds_toArray, List.set_cons_zero, List.set_cons_succ]
      refine take_op (i := 18) (d := 37) (OP := Op.move (Operand.tmp 8)) (T := 3) (v := ?vzz88) rfl rfl rfl rfl (by kernel_rfl) (by kernel_rfl) (by kernel_rfl) (fun _ _ _ h => h) (by rfl) ?hzz88 hHeld ?rzz88
      case hzz88 => (intro w' hSw; (try dsimp only at hSw); go_simp <;> with_reducible rfl)
      try simp only [Act.put, List.setIfInBounds_toArray, List.set_cons_zero, List.set_cons_succ]
      refine take_op (i := 19) (d := 38) (OP := Op.binOp BinOp.sub 3 (Operand.tmp 37) (Operand.const (Value.int IntKind.i64 1)) 3) (T := 3) (v := ?vzz89) rfl rfl rfl rfl (by kernel_rfl) (by kernel_rfl) (by kernel_rfl) (fun _ _ _ h => h) (by rfl) ?hzz89 hHeld ?rzz89
      case hzz89 => (intro w' hSw; (try dsimp only at hSw); go_simp <;> with_reducible rfl)
      try simp only [Act.put, List.setIfInBounds_toArray, List.set_cons_zero, List.set_cons_succ]
      refine take_op (i := 20) (d := 39) (OP := Op.indexAddr 44 (Operand.tmp 36) (Operand.tmp 38)) (T := 0) (v := ?vzz90) rfl rfl rfl rfl (by kernel_rfl) (by kernel_rfl) (by kernel_rfl) (fun _ _ _ h => h) (by rfl) ?hzz90 hHeld ?rzz90
      case hzz90 => (intro w' hSw; (try dsimp only at hSw); go_simp <;> with_reducible rfl)
      try simp only [Act.put, List.setIfInBounds_toArray, List.set_cons_zero, List.set_cons_succ]
      refine take_op (i := 21) (d := 40) (OP := Op.fieldAddr 77 (Operand.tmp 39) 0) (T := 0) (v := ?vzz91) rfl rfl rfl rfl (by kernel_rfl) (by kernel_rfl) (by kernel_rfl) (fun _ _ _ h => h) (by rfl) ?hzz91 hHeld ?rzz91
      case hzz91 => (intro w' hSw; (try dsimp only at hSw); go_simp <;> with_reducible rfl)
      try simp only [Act.put, List.setIfInBounds_toArray, List.set_cons_zero, List.set_cons_succ]
      refine take_op (i := 22) (d := 41) (OP := Op.load 52 (Operand.tmp 40)) (T := 52) (v := ?vzz92) rfl rfl rfl rfl (by kernel_rfl) (by kernel_rfl) (by kernel_rfl) (fun _ _ _ h => h) (by rfl) ?hzz92 hHeld ?rzz92
      case hzz92 => (intro w' hSw; (try dsimp only at hSw); go_simp <;> with_reducible rfl)
      try simp only [Act.put, List.setIfInBounds_toArray, List.set_cons_zero, List.set_cons_succ]
      refine take_op (i := 23) (d := 42) (OP := Op.load 52 (Operand.tmp 4)) (T := 52) (v := ?vzz93) rfl rfl rfl rfl (by kernel_rfl) (by kernel_rfl) (by kernel_rfl) (fun _ _ _ h => h) (by rfl) ?hzz93 hHeld ?rzz93
      case hzz93 => (intro w' hSw; (try dsimp only at hSw); go_simp <;> with_reducible rfl)
      try simp only [Act.put, List.setIfInBounds_toArray, List.set_cons_zero, List.set_cons_succ]
      refine call_op (i := 24) (d := 43) (OP := Op.call { callee := Callee.value (Operand.func 63), args := #[Operand.tmp 41, Operand.tmp 42], argTypes := #[52, 52] }) (T := 3) (f := 63) (args := #[.agg #[.int .i64 g1, .int .i64 r1, .string l1, .int .i64 n1, .int .i64 i1], .agg #[.int .i64 g, .int .i64 r, .string l0, .int .i64 n0, .int .i64 i0]]) rfl rfl rfl rfl (by kernel_rfl) (by rfl) (by go_simp) ?_
      refine (k63 _).mono ?_
      rintro e z2 ⟨rfl, bz2⟩
      have qz2 : z2.cell? ⟨B3, 0, none⟩ = some (.int .i64 k) ∧ z2.cell? ⟨B3, 1, none⟩ = some (.int .i64 n) ∧ z2.cell? ⟨B3, 2, none⟩ = some (.slice (some ⟨eb, eo, none⟩) N c) ∧ z2.cell? ⟨B4, 0, none⟩ = some (.int .i64 g) ∧ z2.cell? ⟨B4, 1, none⟩ = some (.int .i64 r) ∧ z2.cell? ⟨B4, 2, none⟩ = some (.string l0) ∧ z2.cell? ⟨B4, 3, none⟩ = some (.int .i64 n0) ∧ z2.cell? ⟨B4, 4, none⟩ = some (.int .i64 i0) ∧ z2.cell? ⟨eb, eo + kk * 6, none⟩ = some (.int .i64 g1) ∧ z2.cell? ⟨eb, eo + kk * 6 + 1, none⟩ = some (.int .i64 r1) ∧ z2.cell? ⟨eb, eo + kk * 6 + 2, none⟩ = some (.string l1) ∧ z2.cell? ⟨eb, eo + kk * 6 + 3, none⟩ = some (.int .i64 n1) ∧ z2.cell? ⟨eb, eo + kk * 6 + 4, none⟩ = some (.int .i64 i1) ∧ Below w1.heap.size w1 z2 := ⟨cell_stays hHeld.1 bz2, cell_stays hHeld.2.1 bz2, cell_stays hHeld.2.2.1 bz2, cell_stays hHeld.2.2.2.1 bz2, cell_stays hHeld.2.2.2.2.1 bz2, cell_stays hHeld.2.2.2.2.2.1 bz2, cell_stays hHeld.2.2.2.2.2.2.1 bz2, cell_stays hHeld.2.2.2.2.2.2.2.1 bz2, cell_stays hHeld.2.2.2.2.2.2.2.2.1 bz2, cell_stays hHeld.2.2.2.2.2.2.2.2.2.1 bz2, cell_stays hHeld.2.2.2.2.2.2.2.2.2.2.1 bz2, cell_stays hHeld.2.2.2.2.2.2.2.2.2.2.2.1 bz2, cell_stays hHeld.2.2.2.2.2.2.2.2.2.2.2.2.1 bz2, nextB hHeld.2.2.2.2.2.2.2.2.2.2.2.2.2 bz2⟩
      refine ⟨_, rfl, qz2, ?_⟩
      replace hHeld := qz2
      try simp only [Act.put, List.setIfInBounds_toArray, List.set_cons_zero, List.set_cons_succ]
      refine take_op (i := 25) (d := 44) (OP := Op.binOp BinOp.geq 3 (Operand.tmp 43) (Operand.const (Value.int IntKind.i64 0)) 3) (T := 4) (v := ?vzz94) rfl rfl rfl rfl (by kernel_rfl) (by kernel_rfl) (by kernel_rfl) (fun _ _ _ h => h) (by rfl) ?hzz94 hHeld ?rzz94
      case hzz94 => (intro w' hSw; (try dsimp only at hSw); go_simp <;> with_reducible rfl)
      try simp only [Act.put, List.setIfInBounds_toArray, List.set_cons_zero, List.set_cons_succ]
      refine take_op (i := 26) (d := 45) (OP := Op.pick (Operand.tmp 34) (Operand.tmp 44) (Operand.const (Value.bool false))) (T := 4) (v := ?vzz95) rfl rfl rfl rfl (by kernel_rfl) (by kernel_rfl) (by kernel_rfl) (fun _ _ _ h => h) (by rfl) ?hzz95 hHeld ?rzz95
      case hzz95 => (intro w' hSw; (try dsimp only at hSw); go_simp <;> with_reducible rfl)
      try simp only [Act.put, List.setIfInBounds_toArray, List.set_cons_zero, List.set_cons_succ]
      refine take_op (i := 27) (d := 46) (OP := Op.pick (Operand.tmp 31) (Operand.const (Value.bool true)) (Operand.tmp 45)) (T := 4) (v := ?vzz96) rfl rfl rfl rfl (by kernel_rfl) (by kernel_rfl) (by kernel_rfl) (fun _ _ _ h => h) (by rfl) ?hzz96 hHeld ?rzz96
      case hzz96 => (intro w' hSw; (try dsimp only at hSw); go_simp <;> with_reducible rfl)
      try simp only [Act.put, List.setIfInBounds_toArray, List.set_cons_zero, List.set_cons_succ]
      refine wpAnyH_done (by kernel_rfl) ?_ _
      have HE := hide hHeld.2.2.2.2.2.2.2.2.2.2.2.2.2
      clear hHeld qd hS wz wkk gN gN' dz dz' f0 f1 f2 f3 f4 k63
      clear k30 k62 k16 H up HW hret HR
      first | go_meet | (go_wp2; go_meet)
      exact ⟨by first | (simp; done) | (simp [dC2]; done) | rfl, HE⟩
  case rest =>
  obtain ⟨rfl, HZ⟩ := hcut
  obtain ⟨wZ, rfl⟩ : ∃ W, W = wc := ⟨wc, rfl⟩
  clear k30 k62 x0 x1 x2 y0 y1 y2 y3 y4 z0 z1 z2 z3 z4 z5 xr
  obtain ⟨x0, x1, x2, y0, y1, y2, y3, y4, z0, z1, z2, z3, z4, z5, xr⟩ := up.out wZ HZ.out
  by_cases hbad : CE = 2 ∨ V1 = false ∨ V2 = false ∨ V4 = false
  · have hR2 : R = (0, 0, [], 2) := by rw [HR.out, if_pos hbad]
    have HR2 := hide hR2
    clear hR2
    have eb : (!(V1 && V2 && !(decide (CE = 2)) && V4)) = true := by
      rcases hbad with h | h | h | h
      · simp [h]
      · simp [h]
      · simp [h]
      · simp [h]
    rw [eb]
    clear eb hbad
    go_wp2_with (refine wpList_storeV rfl rfl _ _ rfl B6 0 0 none 0 0 rfl rfl xr ?_; intro w9 H9)
    refine ret_row_tmp B6 [.int .i64 0, .int .i64 0, .slice none 0 0] rfl rfl rfl Tryz.underlying46 rfl Tryz.info46 H9.out.1 rfl ?_
    rw [HR2.out]
    exact ValE.bad 2 (hret.out _ _ HZ.out H9.out.2)
  have HR3 : Hid (R = if CE = 7 ∨ ok ≠ k then ((0, 0, [], 7) : Int × Int × List El × Int) else (k, wrap64 (n + on), CL, 0)) := hide (by rw [HR.out, if_neg hbad])
  simp only [not_or, Bool.not_eq_false] at hbad
  obtain ⟨hC2, rfl, rfl, rfl⟩ := hbad
  have eb : (!(true && true && !(decide (CE = 2)) && true)) = false := by simp [hC2]
  rw [eb]
  clear eb
  by_cases h7 : CE = 7 ∨ ok ≠ k
  · have HR4 : Hid (R = (0, 0, [], 7)) := hide (by rw [HR3.out, if_pos h7])
    by_cases hC0 : CE = 0
    · subst hC0
      have hok : ¬ ok = k := by rcases h7 with h | h; omega; exact h
      have e1 : (ok == k) = false := by simpa using hok
      have e2 : (ok != k) = true := by simpa using hok
      have e3 : decide (ok = k) = false := by simpa using hok
      go_wp2_with (refine wpList_storeV rfl rfl _ _ rfl B6 0 0 none 0 0 rfl rfl xr ?_; intro w9 H9)
      refine ret_row_tmp B6 [.int .i64 0, .int .i64 0, .slice none 0 0] rfl rfl rfl Tryz.underlying46 rfl Tryz.info46 H9.out.1 rfl ?_
      rw [HR4.out]
      exact ValE.bad 7 (hret.out _ _ HZ.out H9.out.2)
    · have e1 : (CE == 0) = false := by simpa using hC0
      have e2 : (CE != 0) = true := by simpa using hC0
      have e3 : decide (CE = 0) = false := by simpa using hC0
      go_wp2_with (refine wpList_storeV rfl rfl _ _ rfl B6 0 0 none 0 0 rfl rfl xr ?_; intro w9 H9)
      refine ret_row_tmp B6 [.int .i64 0, .int .i64 0, .slice none 0 0] rfl rfl rfl Tryz.underlying46 rfl Tryz.info46 H9.out.1 rfl ?_
      rw [HR4.out]
      exact ValE.bad 7 (hret.out _ _ HZ.out H9.out.2)
  have HR5 : Hid (R = (k, wrap64 (n + on), CL, 0)) := hide (by rw [HR3.out, if_neg h7])
  have hokk : ok = k := Decidable.byContradiction (fun h => h7 (Or.inr h))
  have hC7 : CE ≠ 7 := fun h => h7 (Or.inl h)
  subst hokk
  clear h7
  clear HR HR3
  have hC0 : CE = 0 := by have := H.out.2.2.2.2.2.2.2.2; omega
  subst hC0
  clear hC2 hC7
  go_upto_region 8 with fail
  obtain ⟨wd, hwd⟩ : ∃ W, W = wZ.alloc (.cells #[.int .i64 ok, .int .i64 n, .slice none 0 0] 46) := ⟨_, rfl⟩
  have bd : Below wZ.heap.size wZ wd := by rw [hwd]; exact (Below.refl _ wZ).alloc (Nat.le_refl _) _
  have rd := heap_alloc_new wZ (.cells #[.int .i64 ok, .int .i64 n, .slice none 0 0] 46)
  rw [← hwd] at rd
  have sd : wd.heap.size = wZ.heap.size + 1 := by rw [hwd]; simp
  obtain ⟨BO, hBO⟩ : ∃ B, B = wZ.heap.size := ⟨_, rfl⟩
  rw [← hBO] at rd bd sd
  rw [← hwd, ← hBO]
  have hI0 : ApI wZ BO ok n [] wd none 0 := ⟨bd, by omega, rd, Oe.nil _ _⟩
  have hup : Hid (∀ m q W a' c', ApI wZ BO ok m q W a' c' → (W.cell? ⟨B3, 0, none⟩ = some (.int .i64 ok) ∧ W.cell? ⟨B3, 1, none⟩ = some (.int .i64 n) ∧ W.cell? ⟨B3, 2, none⟩ = some (.slice ao N c) ∧ W.cell? ⟨B4, 0, none⟩ = some (.int .i64 g) ∧ W.cell? ⟨B4, 1, none⟩ = some (.int .i64 r) ∧ W.cell? ⟨B4, 2, none⟩ = some (.string l0) ∧ W.cell? ⟨B4, 3, none⟩ = some (.int .i64 n0) ∧ W.cell? ⟨B4, 4, none⟩ = some (.int .i64 i0) ∧ W.cell? ⟨B5, 0, none⟩ = some (.slice pa NP pc) ∧ W.cell? ⟨B5, 1, none⟩ = some (.int .i64 ok) ∧ W.cell? ⟨B5, 2, none⟩ = some (.string os) ∧ W.cell? ⟨B5, 3, none⟩ = some (.int .i64 d) ∧ W.cell? ⟨B5, 4, none⟩ = some (.int .i64 on) ∧ W.cell? ⟨B5, 5, none⟩ = some (.string tx) ∧ W.heap[B6]? = some (.cells #[.int .i64 0, .int .i64 0, .slice none 0 0] 46 (0, 0))) ∧ Below w1.heap.size w1 W) := hide (fun m q W a' c' hI => by
    have hb : Below w1.heap.size w1 W := HZ.out.trans (hI.1.mono (by rw [hBO]; exact HZ.out.size))
    exact ⟨up.out W hb, hb⟩)
  have HBO := hide (And.intro hBO (And.intro HZ.out.size sd))
  have HI0 := hide hI0
  clear hwd bd rd sd hBO hI0 up x0 x1 x2 y0 y1 y2 y3 y4 z0 z1 z2 z3 z4 z5 xr
  go_wp2
  go_loopw [11] (fun iv wr => ∃ i : Nat, i ≤ N ∧ iv = .int .i64 i ∧ Hid (∃ a' c', ApI wZ BO ok n (keptL d tx l i) wr a' c')) (fun iv _ => N - (intOf iv).toNat)
  case atStart => exact ⟨0, Nat.zero_le _, rfl, hide ⟨_, _, HI0.out⟩⟩
  case round =>
  obtain ⟨i, hi, rfl, hP⟩ := hrel
  obtain ⟨a', c', hA⟩ := hP.out
  obtain ⟨⟨x0, x1, x2, y0, y1, y2, y3, y4, z0, z1, z2, z3, z4, z5, xr⟩, bw⟩ := hup.out _ _ _ _ _ hA
  have hql := kept_len d tx l i
  by_cases hlt : i < N
  · have d1 : decide (i < N) = true := by simpa using hlt
    have d1' : (i : Int) < (N : Int) := by omega
    obtain ⟨x, hx⟩ : ∃ x, l[i]? = some x := ⟨_, List.getElem?_eq_getElem (by rw [← H.out.1]; exact hlt)⟩
    obtain ⟨bk, off, hao, q0, q1, q2, q3, q4, q5⟩ := (H.out.2.1.below bw).cells hx
    have hnx := kept_next (d := d) (t := tx) hx
    obtain ⟨q, hq⟩ : ∃ q, q = keptL d tx l i := ⟨_, rfl⟩
    rw [← hq] at hA hql hnx
    obtain ⟨G, hG⟩ : ∃ G, G = goneB d tx i x := ⟨_, rfl⟩
    rw [← hG] at hnx
    obtain ⟨VB, hVB⟩ : ∃ V, V = (x.2.toList == tx.toList) := ⟨_, rfl⟩
    have hG2 : G = ((decide (d = 3) && VB) || decide (d = 4) || (decide (d = 6) && decide (i = 0))) := by rw [hG, hVB]; rfl
    have hVB' := hVB.symm
    subst hao
    obtain ⟨⟨g1, r1, l1, n1, i1⟩, t1⟩ := x
    dsimp only at q0 q1 q2 q3 q4 q5 hVB'
    obtain ⟨we, hwe⟩ : ∃ W, W = wr.alloc (.cells #[.int .i64 g1, .int .i64 r1, .string l1, .int .i64 n1, .int .i64 i1, .string t1] 77) := ⟨_, rfl⟩
    have be : Below wr.heap.size wr we := by rw [hwe]; exact (Below.refl _ wr).alloc (Nat.le_refl _) _
    obtain ⟨p0, p1, p2, p3, p4, p5⟩ := new6 wr (.int .i64 g1) (.int .i64 r1) (.string l1) (.int .i64 n1) (.int .i64 i1) (.string t1) 77
    rw [← hwe] at p0 p1 p2 p3 p4 p5
    obtain ⟨BE, hBE⟩ : ∃ B, B = wr.heap.size := ⟨_, rfl⟩
    rw [← hBE] at p0 p1 p2 p3 p4 p5
    have hA2 : ApI wZ BO ok n q we a' c' := hA.below be
    have HX := hide (And.intro hnx (And.intro hq hG2))
    have HE := hide (And.intro hwe hBE)
    clear hnx hq hG hG2 hVB hx hwe hBE be
    go_upto_region 12 with fail
    have e1 := HE.out.1
    have e2 := HE.out.2
    rw [← e1]
    simp only [← e2]
    clear e1 e2 q0 q1 q2 q3 q4 q5 x0 x1 x2 y0 y1 y2 y3 y4 z0 z1 z2 z3 z4 z5 xr
    obtain ⟨⟨x0, x1, x2, y0, y1, y2, y3, y4, z0, z1, z2, z3, z4, z5, xr⟩, bw2⟩ := hup.out _ _ _ _ _ hA2
    have HA2 := hide hA2
    clear hA hA2 bw bw2 hP
    go_cut [13] (fun v wv => v = .bool G ∧ wv = we)
    case first =>
      by_cases h3 : d = 3
      · subst h3
        cases VB
        · go_wp2_with fail
          first | go_meet | (go_wp2; go_meet)
          exact ⟨by rw [HX.out.2.2]; rfl, rfl⟩
        · go_wp2_with fail
          first | go_meet | (go_wp2; go_meet)
          exact ⟨by rw [HX.out.2.2]; rfl, rfl⟩
      have b3 : (d == 3) = false := by simpa using h3
      have c3 : decide (d = 3) = false := by simpa using h3
      by_cases h4 : d = 4
      · subst h4
        go_wp2_with fail
        first | go_meet | (go_wp2; go_meet)
        exact ⟨by rw [HX.out.2.2]; rfl, rfl⟩
      have b4 : (d == 4) = false := by simpa using h4
      have c4 : decide (d = 4) = false := by simpa using h4
      by_cases h6 : d = 6
      · subst h6
        by_cases hi0 : i = 0
        · subst hi0
          go_wp2_with fail
          first | go_meet | (go_wp2; go_meet)
          exact ⟨by rw [HX.out.2.2]; rfl, rfl⟩
        · have bi : ((i : Int) == 0) = false := by simpa using hi0
          have ci : decide ((i : Int) = 0) = false := by simpa using hi0
          have ni : ¬ (i : Int) = 0 := by omega
          go_wp2_with fail
          first | go_meet | (go_wp2; go_meet)
          exact ⟨by rw [HX.out.2.2]; simp [hi0], rfl⟩
      · have b6 : (d == 6) = false := by simpa using h6
        have c6 : decide (d = 6) = false := by simpa using h6
        go_wp2_with fail
        first | go_meet | (go_wp2; go_meet)
        exact ⟨by rw [HX.out.2.2]; simp [h3, h4, h6], rfl⟩
    case rest =>
    obtain ⟨rfl, hwv⟩ := hcut
    obtain rfl : we = wc := hwv.symm
    clear hwv
    have rB := HA2.out.2.2.1
    have o0 : we.cell? ⟨BO, 2, none⟩ = some (.slice a' q.length c') := (cell_of_row _ _ 2 _ 46 (0, 0) rB).trans rfl
    clear rB
    cases G
    · have HPu : Hid (Below (BO + 1) we we ∧ Oe we (BO + 1) (.slice a' q.length c') q) := hide ⟨Below.refl _ _, HA2.out.2.2.2⟩
      have hBs : BO + 1 ≤ we.heap.size := HA2.out.2.1
      have hq2 : q.length ≤ 1000 := by omega
      have HBs := hide hBs
      clear hBs
      go_wp2_with (refine pushT ((g1, r1, l1, n1, i1), t1) HPu HBs.out (by omega) rfl _ _ rfl rfl rfl ?_; intro a4 c4 w4 H4; have rB4 := (H4.out.2.1.block _ (Nat.lt_succ_self BO)).trans HA2.out.2.2.1; have o4 : w4.cell? ⟨BO, 2, none⟩ = some (.slice a' q.length c') := (cell_of_row _ _ 2 _ 46 (0, 0) rB4).trans rfl; have z4 : w4.frozen? ⟨BO, 2, none⟩ = false := frozen_of_row _ _ 2 _ 46 rB4; have HB4 := hide rB4; clear rB4 o0)
      go_roundw
      case rel =>
        refine ⟨i + 1, by omega, by go_num, hide ⟨a4, c4, ?_⟩⟩
        rw [HX.out.1, if_neg (by decide)]
        exact HA2.out.push H4.out.2.1 H4.out.2.2 HB4.out
      case measure => simp [intOf]; omega
    · go_wp2_with fail
      go_roundw
      case rel => exact ⟨i + 1, by omega, by go_num, hide ⟨a', c', by rw [HX.out.1, if_pos rfl, List.append_nil]; exact HA2.out⟩⟩
      case measure => simp [intOf]; omega
  · obtain rfl : N = i := by omega
    have d1 : decide (N < N) = false := by simp
    obtain ⟨q, hq⟩ : ∃ q, q = keptL d tx l N := ⟨_, rfl⟩
    rw [← hq] at hA hql
    have hkc := H.out.2.2.2.2.1
    rw [← H.out.1, ← hq] at hkc
    obtain ⟨NN, hNN⟩ : ∃ z, z = wrap64 (n + on) := ⟨_, rfl⟩
    have wz : IntKind.i64.wrap (n + on) = NN := by rw [hNN, IntKind.wrap_i64, wrap64]
    have hA1 : ApI wZ BO ok NN q (wr.setCell ⟨BO, 1, none⟩ (.int .i64 NN)) a' c' := hA.number NN
    have rB := hA.2.2.1
    have o1 : wr.cell? ⟨BO, 1, none⟩ = some (.int .i64 n) := (cell_of_row _ _ 1 _ 46 (0, 0) rB).trans rfl
    have z1 : wr.frozen? ⟨BO, 1, none⟩ = false := frozen_of_row _ _ 1 _ 46 rB
    obtain ⟨wn, hwn⟩ : ∃ W, W = wr.setCell ⟨BO, 1, none⟩ (.int .i64 NN) := ⟨_, rfl⟩
    rw [← hwn] at hA1
    obtain ⟨⟨x0n, x1n, x2n, y0n, y1n, y2n, y3n, y4n, z0n, z1n, z2n, z3n, z4n, z5n, xr2⟩, bn⟩ := hup.out _ _ _ _ _ hA1
    have HN := hide (And.intro hwn (And.intro hkc hNN))
    have HA := hide hA1
    have k16a := k16 wn bn
    have wn1 : wrap64 (n + on) = NN := hNN.symm
    clear hwn hkc hNN hq hA hA1 rB bw bn k16 hP
    go_upto_region 16 with fail
    have e1 := HN.out.1
    rw [← e1]
    clear e1
    try clear wn1
    try clear o1
    try clear z1
    try clear wz
    clear x0 x1 x2 y0 y1 y2 y3 y4 z0 z1 z2 z3 z4 z5
    try clear xr
    have hSB : SB = bringsD d := by have := H.out.2.2.2.2.2.1; simpa using this
    rw [hSB] at k16a
    have hkc := HN.out.2.1
    clear hSB
    generalize bringsD d = VS at k16a hkc
    cases VS
    · have HCL : Hid (q = CL) := hide (by simpa using hkc)
      clear hkc
      go_upto_region 18 with (go_at_call 16; refine k16a.mono ?_; rintro e w7 ⟨rfl, b7⟩; have HAf := hide (HA.out.below b7); clear b7 k16a x0n x1n x2n y0n y1n y2n y3n y4n z0n z1n z2n z3n z4n z5n; dsimp only)
      clear xr2
      obtain ⟨⟨-, -, -, -, -, -, -, -, -, -, -, -, -, -, xrf⟩, bwf⟩ := hup.out _ _ _ _ _ HAf.out
      have rBf := HAf.out.2.2.1
      have f0 : w7.cell? ⟨BO, 0, none⟩ = some (.int .i64 ok) := (cell_of_row _ _ 0 _ 46 (0, 0) rBf).trans rfl
      have f1 : w7.cell? ⟨BO, 1, none⟩ = some (.int .i64 NN) := (cell_of_row _ _ 1 _ 46 (0, 0) rBf).trans rfl
      have f2 : w7.cell? ⟨BO, 2, none⟩ = some (.slice a' q.length c') := (cell_of_row _ _ 2 _ 46 (0, 0) rBf).trans rfl
      have HBf := hide bwf
      clear bwf rBf
      go_wp2_with (refine wpList_storeV rfl rfl _ _ rfl B6 ok NN a' q.length c' rfl rfl xrf ?_; intro w9 H9)
      refine ret_row_tmp B6 [.int .i64 ok, .int .i64 NN, .slice a' q.length c'] rfl rfl rfl Tryz.underlying46 rfl Tryz.info46 H9.out.1 rfl ?_
      have hO9 := HAf.out.2.2.2.only H9.out.2 (fun k hk e => by
        have h1 := ApI.own_ne HAf.out.2.2.2 k hk
        have h2 := (World.ownsRow.lt HAf.out.2.2.2 k hk).1
        have := HBO.out; have := HW.out; omega)
      rw [HR5.out]
      refine ⟨a', c', ?_, ?_, hret.out _ _ HBf.out H9.out.2⟩
      · dsimp only
        rw [← HCL.out, ← HN.out.2.2]
        try rfl
      · dsimp only
        rw [← HCL.out]
        exact Nv.own hO9 (by have := HBO.out; have := HW.out; omega)
    · have HCL : Hid (q ++ [((g, r, l0, n0, i0), tx)] = CL) := hide (by simpa using hkc)
      clear hkc
      have hq2 : q.length ≤ 1000 := by omega
      go_upto_region 18 with (first
        | (go_at_call 16; refine k16a.mono ?_; rintro e w7 ⟨rfl, b7⟩; have HA7 := hide (HA.out.below b7); clear b7 k16a x0n x1n x2n y0n y1n y2n y3n y4n z0n z1n z2n z3n z4n z5n xr2; obtain ⟨⟨x0, x1, x2, y0, y1, y2, y3, y4, z0, z1, z2, z3, z4, z5, xr⟩, -⟩ := hup.out _ _ _ _ _ HA7.out; have rB7 := HA7.out.2.2.1; have o7 : w7.cell? ⟨BO, 2, none⟩ = some (.slice a' q.length c') := (cell_of_row _ _ 2 _ 46 (0, 0) rB7).trans rfl; have HPu : Hid (Below (BO + 1) w7 w7 ∧ Oe w7 (BO + 1) (.slice a' q.length c') q) := hide ⟨Below.refl _ _, HA7.out.2.2.2⟩; clear rB7; dsimp only)
        | (refine pushT ((g, r, l0, n0, i0), tx) HPu HA7.out.2.1 (by omega) rfl _ _ rfl rfl rfl ?_; intro a4 c4 w4 H4; have rB4 := (H4.out.2.1.block _ (Nat.lt_succ_self BO)).trans HA7.out.2.2.1; have o4 : w4.cell? ⟨BO, 2, none⟩ = some (.slice a' q.length c') := (cell_of_row _ _ 2 _ 46 (0, 0) rB4).trans rfl; have zq4 : w4.frozen? ⟨BO, 2, none⟩ = false := frozen_of_row _ _ 2 _ 46 rB4; have HB4 := hide rB4; clear rB4 o7 x0 x1 x2 y0 y1 y2 y3 y4 z0 z1 z2 z3 z4 z5 xr))
      have HAf := hide (HA7.out.push H4.out.2.1 H4.out.2.2 HB4.out)
      obtain ⟨wf, hwf⟩ : ∃ W, W = w4.setCell ⟨BO, 2, none⟩ (.slice a4 (q.length + 1) c4) := ⟨_, rfl⟩
      rw [← hwf] at HAf ⊢
      clear hwf o4 zq4
      obtain ⟨⟨-, -, -, -, -, -, -, -, -, -, -, -, -, -, xrf⟩, bwf⟩ := hup.out _ _ _ _ _ HAf.out
      have rBf : wf.heap[BO]? = some (.cells #[.int .i64 ok, .int .i64 NN, .slice a4 (q.length + 1) c4] 46 (0, 0)) := by have := HAf.out.2.2.1; rwa [List.length_append] at this
      have f0 : wf.cell? ⟨BO, 0, none⟩ = some (.int .i64 ok) := (cell_of_row _ _ 0 _ 46 (0, 0) rBf).trans rfl
      have f1 : wf.cell? ⟨BO, 1, none⟩ = some (.int .i64 NN) := (cell_of_row _ _ 1 _ 46 (0, 0) rBf).trans rfl
      have f2 : wf.cell? ⟨BO, 2, none⟩ = some (.slice a4 (q.length + 1) c4) := (cell_of_row _ _ 2 _ 46 (0, 0) rBf).trans rfl
      have HBf := hide bwf
      clear bwf rBf
      go_wp2_with (refine wpList_storeV rfl rfl _ _ rfl B6 ok NN a4 (q.length + 1) c4 rfl rfl xrf ?_; intro w9 H9)
      refine ret_row_tmp B6 [.int .i64 ok, .int .i64 NN, .slice a4 (q.length + 1) c4] rfl rfl rfl Tryz.underlying46 rfl Tryz.info46 H9.out.1 rfl ?_
      have hO9 := HAf.out.2.2.2.only H9.out.2 (fun k hk e => by
        have h1 := ApI.own_ne HAf.out.2.2.2 k hk
        have h2 := (World.ownsRow.lt HAf.out.2.2.2 k hk).1
        have := HBO.out; have := HW.out; omega)
      rw [HR5.out]
      refine ⟨a4, c4, ?_, ?_, hret.out _ _ HBf.out H9.out.2⟩
      · dsimp only
        rw [← HCL.out, ← HN.out.2.2, List.length_append]
        try rfl
      · dsimp only
        rw [← HCL.out]
        exact Nv.own hO9 (by have := HBO.out; have := HW.out; omega)
end Go.Proofs.YtkdgageljgfgoaaGreatDoor
namespace Go.Proofs.YtkdgageljgfgoaaGreatDoor
open Go.RowKit Go.Shelf
set_option linter.unusedSimpArgs false
attribute [local go_sem] Oper.semAt_some

theorem applyV_len (k n : Int) (l : List El) (s : St) (p : List ByteArray) (ok : Int) (os : ByteArray) (d on : Int) (tx : ByteArray) : (applyV k n l s p ok os d on tx).2.2.1.length ≤ l.length + 1 := by
  unfold applyV
  split
  · simp
  · split
    · simp
    · exact changeL_len _ _ _
theorem new3a (w : World) (o1 o2 o3 : Obj) : (((w.alloc o1).alloc o2).alloc o3).heap[w.heap.size]? = some o1 ∧ (((w.alloc o1).alloc o2).alloc o3).heap[w.heap.size + 1]? = some o2 ∧ (((w.alloc o1).alloc o2).alloc o3).heap[w.heap.size + 1 + 1]? = some o3 ∧ Below w.heap.size w (((w.alloc o1).alloc o2).alloc o3) := by
  obtain ⟨h1, h2, h3, _, _⟩ := new4 w o1 o2 o3 o3
  have b : ∀ W : World, Below W.heap.size W (W.alloc o3) := fun W => (Below.refl _ W).alloc (Nat.le_refl _) _
  have hb := (((Below.refl _ w).alloc (Nat.le_refl _) o1).alloc (by simp) o2).alloc (by simp; omega) o3
  have z := (b (((w.alloc o1).alloc o2).alloc o3)).block
  refine ⟨(z _ (by simp; omega)).symm.trans h1, (z _ (by simp)).symm.trans h2, (z _ (by simp)).symm.trans h3, hb⟩

set_option maxHeartbeats 16000000 in
set_option maxRecDepth 100000 in
theorem applies_walk {w : World} (k n : Int) {ao : Option Addr} {c : Nat} {l : List El} (s : St) {pa : Option Addr} {pc : Nat} {p : List ByteArray} (ok : Int) (os : ByteArray) (d on : Int) (tx : ByteArray) (h : ElsIn w ao c l) (hss : s.2.2.1.size ≤ 9223372036854775807) (hp : Rp w pa pc p) (hT : Tabs w) :
    Calls Tryz.prog 4 #[vv k n ao l.length c, svT s, opv pa p.length pc ok os d on tx] w fun e w' => e = .returned (.bool true) ∧ Below w.heap.size w w' := by
  obtain ⟨N, hN⟩ : ∃ N, N = l.length := ⟨_, rfl⟩
  obtain ⟨NP, hNP⟩ : ∃ N, N = p.length := ⟨_, rfl⟩
  obtain ⟨g, r, l0, n0, i0⟩ := s
  obtain ⟨w1, hw1⟩ : ∃ w1, w1 = ((w.alloc (.cells #[.int .i64 k, .int .i64 n, .slice ao N c] 46)).alloc (.cells #[.int .i64 g, .int .i64 r, .string l0, .int .i64 n0, .int .i64 i0] 52)).alloc (.cells #[.slice pa NP pc, .int .i64 ok, .string os, .int .i64 d, .int .i64 on, .string tx] 26) := ⟨_, rfl⟩
  obtain ⟨m0, m1, m2, b1⟩ := new3a w (.cells #[.int .i64 k, .int .i64 n, .slice ao N c] 46) (.cells #[.int .i64 g, .int .i64 r, .string l0, .int .i64 n0, .int .i64 i0] 52) (.cells #[.slice pa NP pc, .int .i64 ok, .string os, .int .i64 d, .int .i64 on, .string tx] 26)
  rw [← hw1] at m0 m1 m2 b1
  obtain ⟨w2, hw2⟩ : ∃ w2, w2 = w1.alloc (.cells #[.int .i64 k, .int .i64 n, .slice ao N c] 46) := ⟨_, rfl⟩
  have mY := heap_alloc_new w1 (.cells #[.int .i64 k, .int .i64 n, .slice ao N c] 46)
  rw [← hw2] at mY
  have b12 : Below w1.heap.size w1 w2 := by rw [hw2]; exact (Below.refl _ w1).alloc (Nat.le_refl _) _
  obtain ⟨B3, hB3⟩ : ∃ B, B = w.heap.size := ⟨_, rfl⟩
  obtain ⟨B4, hB4⟩ : ∃ B, B = w.heap.size + 1 := ⟨_, rfl⟩
  obtain ⟨B5, hB5⟩ : ∃ B, B = w.heap.size + 1 + 1 := ⟨_, rfl⟩
  obtain ⟨Y, hY⟩ : ∃ B, B = w1.heap.size := ⟨_, rfl⟩
  rw [← hB3] at m0
  rw [← hB4] at m1
  rw [← hB5] at m2
  rw [← hY] at mY
  have b2 := nextB b1 b12
  have k21 : Calls Tryz.prog 21 #[.slice (some ⟨Y, 0, none⟩) 1 1] w2 fun e w' => e = .returned (.bool (decide (400 < N))) ∧ w' = w2 := by
    have hla : LensAt w2 Y [N] := fun i n hi => by
      match i, hi with
      | 0, hi => cases hi; exact ⟨ao, c, (cell_of_row _ _ 2 _ 46 (0, 0) mY).trans rfl⟩
    have := much_any (c := 1) hla (fun n hn => by
      simp only [List.mem_cons, List.not_mem_nil, or_false] at hn
      have := h.len
      omega) (by simp)
    rw [show [N].sum = N by simp] at this
    exact this
  have k7 : ∀ W, Below w.heap.size w W → Calls Tryz.prog 7 #[] W fun e w' => e = .returned (.bool true) ∧ Below W.heap.size W w' := fun W hW => known_any (hT.below hW)
  have up2 : ∀ W, Below w1.heap.size w1 W → W.cell? ⟨B3, 0, none⟩ = some (.int .i64 k) ∧ W.cell? ⟨B3, 1, none⟩ = some (.int .i64 n) ∧ W.cell? ⟨B3, 2, none⟩ = some (.slice ao N c) ∧ W.cell? ⟨B4, 0, none⟩ = some (.int .i64 g) ∧ W.cell? ⟨B4, 1, none⟩ = some (.int .i64 r) ∧ W.cell? ⟨B4, 2, none⟩ = some (.string l0) ∧ W.cell? ⟨B4, 3, none⟩ = some (.int .i64 n0) ∧ W.cell? ⟨B4, 4, none⟩ = some (.int .i64 i0) ∧ W.cell? ⟨B5, 0, none⟩ = some (.slice pa NP pc) ∧ W.cell? ⟨B5, 1, none⟩ = some (.int .i64 ok) ∧ W.cell? ⟨B5, 2, none⟩ = some (.string os) ∧ W.cell? ⟨B5, 3, none⟩ = some (.int .i64 d) ∧ W.cell? ⟨B5, 4, none⟩ = some (.int .i64 on) ∧ W.cell? ⟨B5, 5, none⟩ = some (.string tx) := fun W hW => by
    have q0 := (hW.block _ (Array.getElem?_eq_some_iff.1 m0).1).trans m0
    have q1 := (hW.block _ (Array.getElem?_eq_some_iff.1 m1).1).trans m1
    have q2 := (hW.block _ (Array.getElem?_eq_some_iff.1 m2).1).trans m2
    exact ⟨(cell_of_row _ _ 0 _ 46 (0, 0) q0).trans rfl, (cell_of_row _ _ 1 _ 46 (0, 0) q0).trans rfl, (cell_of_row _ _ 2 _ 46 (0, 0) q0).trans rfl, (cell_of_row _ _ 0 _ 52 (0, 0) q1).trans rfl, (cell_of_row _ _ 1 _ 52 (0, 0) q1).trans rfl, (cell_of_row _ _ 2 _ 52 (0, 0) q1).trans rfl, (cell_of_row _ _ 3 _ 52 (0, 0) q1).trans rfl, (cell_of_row _ _ 4 _ 52 (0, 0) q1).trans rfl, (cell_of_row _ _ 0 _ 26 (0, 0) q2).trans rfl, (cell_of_row _ _ 1 _ 26 (0, 0) q2).trans rfl, (cell_of_row _ _ 2 _ 26 (0, 0) q2).trans rfl, (cell_of_row _ _ 3 _ 26 (0, 0) q2).trans rfl, (cell_of_row _ _ 4 _ 26 (0, 0) q2).trans rfl, (cell_of_row _ _ 5 _ 26 (0, 0) q2).trans rfl⟩
  rw [← hN, ← hNP]
  have H := hide (And.intro h (And.intro hp (And.intro hT (And.intro hN (And.intro hNP hss)))))
  have HW := hide (And.intro hw1 (And.intro hB3 (And.intro hB4 (And.intro hB5 (And.intro hw2 (And.intro hY (And.intro b2 (And.intro b12 (And.intro m0 (And.intro m1 m2))))))))))
  clear h hp hT hN hNP hss hw1 hB3 hB4 hB5 hw2 hY m0 m1 m2 mY b1 b12
  obtain ⟨x0, x1, x2, y0, y1, y2, y3, y4, z0, z1, z2, z3, z4, z5⟩ := up2 w1 (Below.refl _ _)
  replace up2 := hide up2
  by_cases hmu : 400 < N
  · have dm : decide (400 < N) = true := by simpa using hmu
    rw [dm] at k21
    have K7 := hide (k7 w2 b2)
    clear k7 b2 dm
    go_enter Tryz.func4, Tryz.ntmps4
    go_upto_region 1 with fail
    obtain ⟨t1, t2, t3, t4, -⟩ := HW.out
    rw [← t1, ← t4, ← t3, ← t2]
    clear t1 t2 t3 t4
    go_wp2_with (first
      | (go_at_call 21; (have t3 := HW.out.2.2.2.2.1; have t4 := HW.out.2.2.2.2.2.1; rw [← t4, ← t3]; clear t3 t4); refine k21.mono ?_; rintro e w3 ⟨rfl, hw3⟩; obtain rfl : w2 = w3 := hw3.symm; clear hw3 x0 x1 x2 y0 y1 y2 y3 y4 z0 z1 z2 z3 z4 z5; obtain ⟨x0, x1, x2, y0, y1, y2, y3, y4, z0, z1, z2, z3, z4, z5⟩ := up2.out w2 HW.out.2.2.2.2.2.2.2.1; dsimp only)
      | (go_at_call 7; refine K7.out.mono ?_; rintro e w4 ⟨rfl, b4⟩; have HB := hide b4; clear b4; dsimp only))
    go_ret
    exact ⟨rfl, nextB HW.out.2.2.2.2.2.2.1 HB.out⟩
  have dm : decide (400 < N) = false := by simpa using hmu
  rw [dm] at k21
  clear dm
  by_cases hpa : 200 < NP
  · have dp : decide (200 < NP) = true := by simpa using hpa
    have dp' : (200 : Int) < (NP : Int) := by omega
    have K7 := hide (k7 w2 b2)
    clear k7 b2
    go_enter Tryz.func4, Tryz.ntmps4
    go_upto_region 1 with fail
    obtain ⟨t1, t2, t3, t4, -⟩ := HW.out
    rw [← t1, ← t4, ← t3, ← t2]
    clear t1 t2 t3 t4
    go_wp2_with (first
      | (go_at_call 21; (have t3 := HW.out.2.2.2.2.1; have t4 := HW.out.2.2.2.2.2.1; rw [← t4, ← t3]; clear t3 t4); refine k21.mono ?_; rintro e w3 ⟨rfl, hw3⟩; obtain rfl : w2 = w3 := hw3.symm; clear hw3 x0 x1 x2 y0 y1 y2 y3 y4 z0 z1 z2 z3 z4 z5; obtain ⟨x0, x1, x2, y0, y1, y2, y3, y4, z0, z1, z2, z3, z4, z5⟩ := up2.out w2 HW.out.2.2.2.2.2.2.2.1; dsimp only)
      | (go_at_call 7; refine K7.out.mono ?_; rintro e w4 ⟨rfl, b4⟩; have HB := hide b4; clear b4; dsimp only))
    go_ret
    exact ⟨rfl, nextB HW.out.2.2.2.2.2.2.1 HB.out⟩
  have dp : decide (200 < NP) = false := by simpa using hpa
  have dp' : ¬ (200 : Int) < (NP : Int) := by omega
  go_enter Tryz.func4, Tryz.ntmps4
  go_upto_region 1 with fail
  obtain ⟨t1, t2, t3, t4, -⟩ := HW.out
  rw [← t1, ← t4, ← t3, ← t2]
  clear t1 t2 t3 t4
  go_upto_region 3 with (go_at_call 21; (have t3 := HW.out.2.2.2.2.1; have t4 := HW.out.2.2.2.2.2.1; rw [← t4, ← t3]; clear t3 t4); refine k21.mono ?_; rintro e w3 ⟨rfl, hw3⟩; obtain rfl : w2 = w3 := hw3.symm; clear hw3 x0 x1 x2 y0 y1 y2 y3 y4 z0 z1 z2 z3 z4 z5; obtain ⟨x0, x1, x2, y0, y1, y2, y3, y4, z0, z1, z2, z3, z4, z5⟩ := up2.out w2 HW.out.2.2.2.2.2.2.2.1; dsimp only)
  clear dp dp'
  have k22 : Calls Tryz.prog 22 #[vv k n ao N c] w2 (fun e w' => ∃ g c', e = .returned (vv k n (some ⟨g, 0, none⟩) N c') ∧ Oe w' w2.heap.size (.slice (some ⟨g, 0, none⟩) (N + 1) c') (l ++ [markE]) ∧ Below w2.heap.size w2 w') := by
    have := copied_any k n (c := c) (H.out.1.below b2).re H.out.1.nil (by have := H.out.2.2.2.1; omega)
    unfold CopE at this
    rw [← H.out.2.2.2.1] at this
    exact this
  go_upto_region 4 with (go_at_call 22; refine k22.mono ?_; rintro e w3 ⟨gm, dm, rfl, hO3, b3⟩; have H3 := hide (And.intro hO3 b3); clear hO3 b3 k22 x0 x1 x2 y0 y1 y2 y3 y4 z0 z1 z2 z3 z4 z5; dsimp only)
  obtain ⟨w4, hw4⟩ : ∃ W, W = w3.alloc (.cells #[.int .i64 k, .int .i64 n, .slice (some ⟨gm, 0, none⟩) N dm] 46) := ⟨_, rfl⟩
  have bw4 : Below w3.heap.size w3 w4 := by rw [hw4]; exact (Below.refl _ w3).alloc (Nat.le_refl _) _
  have rw4 := heap_alloc_new w3 (.cells #[.int .i64 k, .int .i64 n, .slice (some ⟨gm, 0, none⟩) N dm] 46)
  rw [← hw4] at rw4
  obtain ⟨B7, hB7⟩ : ∃ B, B = w3.heap.size := ⟨_, rfl⟩
  rw [← hB7] at rw4
  rw [← hw4, ← hB7]
  have H4 := hide (And.intro (nextB H3.out.2 bw4) (And.intro rw4 bw4))
  clear hw4 hB7 bw4 rw4
  have b14 := nextB HW.out.2.2.2.2.2.2.2.1 H4.out.1
  have bW4 := nextB b2 H4.out.1
  have O4 := H3.out.1.below H4.out.2.2
  have e0 := H.out.2.2.2.1; have e1 := H.out.2.2.2.2.1
  obtain ⟨R, hR⟩ : ∃ R, R = applyV k n l (g, r, l0, n0, i0) p ok os d on tx := ⟨_, rfl⟩
  have hRl : R.2.2.1.length ≤ 1000 := by rw [hR]; have := applyV_len k n l (g, r, l0, n0, i0) p ok os d on tx; omega
  have k23 : Calls Tryz.prog 23 #[vv k n (some ⟨gm, 0, none⟩) N dm, svT (g, r, l0, n0, i0), opv pa NP pc ok os d on tx] w4 (ValE w4 R) := by
    have := apply_any k n (g, r, l0, n0, i0) ok os d on tx (copy_rv e0 O4) (by omega) (H.out.2.1.below bW4) (H.out.2.2.1.below bW4)
    rw [← e0, ← e1, ← hR] at this
    exact this
  have HR := hide hR
  have HO4 := hide (And.intro O4 (And.intro b14 bW4))
  clear hR O4 e0 e1
  obtain ⟨x0, x1, x2, y0, y1, y2, y3, y4, z0, z1, z2, z3, z4, z5⟩ := up2.out w4 b14
  obtain ⟨p0, p1, p2⟩ : w4.cell? ⟨B7, 0, none⟩ = some (.int .i64 k) ∧ w4.cell? ⟨B7, 1, none⟩ = some (.int .i64 n) ∧ w4.cell? ⟨B7, 2, none⟩ = some (.slice (some ⟨gm, 0, none⟩) N dm) := ⟨(cell_of_row _ _ 0 _ 46 (0, 0) H4.out.2.1).trans rfl, (cell_of_row _ _ 1 _ 46 (0, 0) H4.out.2.1).trans rfl, (cell_of_row _ _ 2 _ 46 (0, 0) H4.out.2.1).trans rfl⟩
  clear b14 bW4
  go_upto_region 5 with (go_at_call 23; refine k23.mono ?_; rintro e w5 ⟨a4, c4, rfl, hn5, b5⟩; have H5 := hide (And.intro hn5 b5); clear hn5 b5 k23 x0 x1 x2 y0 y1 y2 y3 y4 z0 z1 z2 z3 z4 z5 p0 p1 p2; dsimp only)
  obtain ⟨w6, hw6⟩ : ∃ W, W = w5.alloc (.cells #[.int .i64 R.1, .int .i64 R.2.1, .slice a4 R.2.2.1.length c4] 46) := ⟨_, rfl⟩
  have bw6 : Below w5.heap.size w5 w6 := by rw [hw6]; exact (Below.refl _ w5).alloc (Nat.le_refl _) _
  have rw6 := heap_alloc_new w5 (.cells #[.int .i64 R.1, .int .i64 R.2.1, .slice a4 R.2.2.1.length c4] 46)
  rw [← hw6] at rw6
  obtain ⟨B8, hB8⟩ : ∃ B, B = w5.heap.size := ⟨_, rfl⟩
  rw [← hB8] at rw6
  rw [← hw6, ← hB8]
  have H6 := hide (And.intro (nextB H5.out.2 bw6) (And.intro rw6 bw6))
  clear hw6 hB8 bw6 rw6
  have b46 := H6.out.1
  have e0 := H.out.2.2.2.1
  obtain ⟨TX, hTX⟩ : ∃ R, R = showV k n l := ⟨_, rfl⟩
  have k24 : Calls Tryz.prog 24 #[vv k n (some ⟨gm, 0, none⟩) N dm] w6 (fun e w' => ∃ a' c', e = .returned (.tuple #[.int .i64 TX.1, .slice a' TX.2.1.length c', .int .i64 TX.2.2]) ∧ Nt w' w6.heap.size a' c' TX.2.1 ∧ Below w6.heap.size w6 w') := by
    have := show_any k n ((copy_rv e0 HO4.out.1).below b46) (by omega)
    unfold TxtE at this
    rw [← e0, ← hTX] at this
    exact this
  have HTX := hide hTX
  obtain ⟨p0, p1, p2⟩ : w6.cell? ⟨B7, 0, none⟩ = some (.int .i64 k) ∧ w6.cell? ⟨B7, 1, none⟩ = some (.int .i64 n) ∧ w6.cell? ⟨B7, 2, none⟩ = some (.slice (some ⟨gm, 0, none⟩) N dm) := ⟨(cell_of_row _ _ 0 _ 46 (0, 0) ((b46.block _ (Array.getElem?_eq_some_iff.1 H4.out.2.1).1).trans H4.out.2.1)).trans rfl, (cell_of_row _ _ 1 _ 46 (0, 0) ((b46.block _ (Array.getElem?_eq_some_iff.1 H4.out.2.1).1).trans H4.out.2.1)).trans rfl, (cell_of_row _ _ 2 _ 46 (0, 0) ((b46.block _ (Array.getElem?_eq_some_iff.1 H4.out.2.1).1).trans H4.out.2.1)).trans rfl⟩
  clear hTX b46 e0
  go_upto_region 6 with (go_at_call 24; refine k24.mono ?_; rintro e w7 ⟨ta, tc, rfl, hn7, b7⟩; have H7 := hide (And.intro hn7 b7); clear hn7 b7 k24 p0 p1 p2; dsimp only)
  have b47 := nextB H6.out.1 H7.out.2
  have b17 := nextB HO4.out.2.1 b47
  have bW7 := nextB HO4.out.2.2 b47
  obtain ⟨x0, x1, x2, y0, y1, y2, y3, y4, z0, z1, z2, z3, z4, z5⟩ := up2.out w7 b17
  obtain ⟨p0, p1, p2⟩ : w7.cell? ⟨B7, 0, none⟩ = some (.int .i64 k) ∧ w7.cell? ⟨B7, 1, none⟩ = some (.int .i64 n) ∧ w7.cell? ⟨B7, 2, none⟩ = some (.slice (some ⟨gm, 0, none⟩) N dm) := ⟨(cell_of_row _ _ 0 _ 46 (0, 0) ((b47.block _ (Array.getElem?_eq_some_iff.1 H4.out.2.1).1).trans H4.out.2.1)).trans rfl, (cell_of_row _ _ 1 _ 46 (0, 0) ((b47.block _ (Array.getElem?_eq_some_iff.1 H4.out.2.1).1).trans H4.out.2.1)).trans rfl, (cell_of_row _ _ 2 _ 46 (0, 0) ((b47.block _ (Array.getElem?_eq_some_iff.1 H4.out.2.1).1).trans H4.out.2.1)).trans rfl⟩
  have hS : w7.cell? ⟨B7, 0, none⟩ = some (.int .i64 k) ∧ w7.cell? ⟨B7, 1, none⟩ = some (.int .i64 n) ∧ w7.cell? ⟨B7, 2, none⟩ = some (.slice (some ⟨gm, 0, none⟩) N dm) ∧ w7.cell? ⟨B3, 0, none⟩ = some (.int .i64 k) ∧ w7.cell? ⟨B3, 1, none⟩ = some (.int .i64 n) ∧ w7.cell? ⟨B3, 2, none⟩ = some (.slice ao N c) ∧ Below w7.heap.size w7 w7 := ⟨p0, p1, p2, x0, x1, x2, Below.refl _ _⟩
  clear x0 x1 x2 y0 y1 y2 y3 y4 z0 z1 z2 z3 z4 z5 p0 p1 p2
  obtain ⟨VB, hVB⟩ : ∃ V, V = valB k n l := ⟨_, rfl⟩
  have e0 := H.out.2.2.2.1
  have k25 : ∀ W, Below w7.heap.size w7 W → Calls Tryz.prog 25 #[vv k n (some ⟨gm, 0, none⟩) N dm] W fun e w' => e = .returned (.bool VB) ∧ Below W.heap.size W w' := fun W hW => by
    have := value_any k n ((copy_rv e0 HO4.out.1).below (nextB b47 hW)) (by omega)
    rw [← e0, ← hVB] at this
    exact this
  have k26 : ∀ W, Below w7.heap.size w7 W → Calls Tryz.prog 26 #[vv k n (some ⟨gm, 0, none⟩) N dm, vv k n ao N c] W fun e w' => e = .returned (.bool true) ∧ Below W.heap.size W w' := fun W hW => by
    have := same_any k n k n (c := dm) (d := c) ((copy_rv e0 HO4.out.1).below (nextB b47 hW)).re (H.out.1.below (nextB bW7 hW)).re (by omega) (by omega)
    rw [show sameV k n l k n l = true by simp [sameV], ← e0] at this
    exact this
  have HVB := hide (And.intro hVB (And.intro b47 (And.intro b17 bW7)))
  clear hVB e0 b47 b17 bW7
  have qd : w7.drew.cell? ⟨B7, 0, none⟩ = some (.int .i64 k) ∧ w7.drew.cell? ⟨B7, 1, none⟩ = some (.int .i64 n) ∧ w7.drew.cell? ⟨B7, 2, none⟩ = some (.slice (some ⟨gm, 0, none⟩) N dm) ∧ w7.drew.cell? ⟨B3, 0, none⟩ = some (.int .i64 k) ∧ w7.drew.cell? ⟨B3, 1, none⟩ = some (.int .i64 n) ∧ w7.drew.cell? ⟨B3, 2, none⟩ = some (.slice ao N c) ∧ Below w7.heap.size w7 w7.drew := ⟨cell_stays hS.1 (drew_below w7), cell_stays hS.2.1 (drew_below w7), cell_stays hS.2.2.1 (drew_below w7), cell_stays hS.2.2.2.1 (drew_below w7), cell_stays hS.2.2.2.2.1 (drew_below w7), cell_stays hS.2.2.2.2.2.1 (drew_below w7), nextB hS.2.2.2.2.2.2 (drew_below w7)⟩
  refine wp_region_held_drew (S := (fun w' => w'.cell? ⟨B7, 0, none⟩ = some (.int .i64 k) ∧ w'.cell? ⟨B7, 1, none⟩ = some (.int .i64 n) ∧ w'.cell? ⟨B7, 2, none⟩ = some (.slice (some ⟨gm, 0, none⟩) N dm) ∧ w'.cell? ⟨B3, 0, none⟩ = some (.int .i64 k) ∧ w'.cell? ⟨B3, 1, none⟩ = some (.int .i64 n) ∧ w'.cell? ⟨B3, 2, none⟩ = some (.slice ao N c) ∧ Below w7.heap.size w7 w')) (by kernel_rfl) qd (fun hHeld => ?_)
  try dsimp only at hHeld
  refine take_op (i := 0) (d := 42) (OP := Op.load 46 (Operand.tmp 7)) (T := 46) (v := ?vzz1) rfl rfl rfl rfl (by kernel_rfl) (by kernel_rfl) (by kernel_rfl) (fun _ _ _ h => h) (by rfl) ?hzz1 hHeld ?rzz1
  case hzz1 => (intro w' hSw; (try dsimp only at hSw); go_simp <;> with_reducible rfl)
  try simp only [Act.put, List.setIfInBounds_toArray, List.set_cons_zero, List.set_cons_succ]
  refine take_op (i := 2) (d := 44) (OP := Op.load 46 (Operand.tmp 7)) (T := 46) (v := ?vzz2) rfl rfl rfl rfl (by kernel_rfl) (by kernel_rfl) (by kernel_rfl) (fun _ _ _ h => h) (by rfl) ?hzz2 hHeld ?rzz2
  case hzz2 => (intro w' hSw; (try dsimp only at hSw); go_simp <;> with_reducible rfl)
  try simp only [Act.put, List.setIfInBounds_toArray, List.set_cons_zero, List.set_cons_succ]
  refine take_op (i := 3) (d := 45) (OP := Op.load 46 (Operand.tmp 3)) (T := 46) (v := ?vzz3) rfl rfl rfl rfl (by kernel_rfl) (by kernel_rfl) (by kernel_rfl) (fun _ _ _ h => h) (by rfl) ?hzz3 hHeld ?rzz3
  case hzz3 => (intro w' hSw; (try dsimp only at hSw); go_simp <;> with_reducible rfl)
  try simp only [Act.put, List.setIfInBounds_toArray, List.set_cons_zero, List.set_cons_succ]
  refine call_op (i := 1) (d := 43) (OP := Op.call { callee := Callee.value (Operand.func 25), args := #[Operand.tmp 42], argTypes := #[46] }) (T := 4) (f := 25) (args := #[vv k n (some ⟨gm, 0, none⟩) N dm]) rfl rfl rfl rfl (by kernel_rfl) (by rfl) (by go_simp) ?_
  refine (k25 _ hHeld.2.2.2.2.2.2).mono ?_
  rintro e z1 ⟨rfl, bz1⟩
  have qz1 : z1.cell? ⟨B7, 0, none⟩ = some (.int .i64 k) ∧ z1.cell? ⟨B7, 1, none⟩ = some (.int .i64 n) ∧ z1.cell? ⟨B7, 2, none⟩ = some (.slice (some ⟨gm, 0, none⟩) N dm) ∧ z1.cell? ⟨B3, 0, none⟩ = some (.int .i64 k) ∧ z1.cell? ⟨B3, 1, none⟩ = some (.int .i64 n) ∧ z1.cell? ⟨B3, 2, none⟩ = some (.slice ao N c) ∧ Below w7.heap.size w7 z1 := ⟨cell_stays hHeld.1 bz1, cell_stays hHeld.2.1 bz1, cell_stays hHeld.2.2.1 bz1, cell_stays hHeld.2.2.2.1 bz1, cell_stays hHeld.2.2.2.2.1 bz1, cell_stays hHeld.2.2.2.2.2.1 bz1, nextB hHeld.2.2.2.2.2.2 bz1⟩
  refine ⟨_, rfl, qz1, ?_⟩
  replace hHeld := qz1
  try simp only [Act.put, List.setIfInBounds_toArray, List.set_cons_zero, List.set_cons_succ]
  refine call_op (i := 4) (d := 46) (OP := Op.call { callee := Callee.value (Operand.func 26), args := #[Operand.tmp 44, Operand.tmp 45], argTypes := #[46, 46] }) (T := 4) (f := 26) (args := #[vv k n (some ⟨gm, 0, none⟩) N dm, vv k n ao N c]) rfl rfl rfl rfl (by kernel_rfl) (by rfl) (by go_simp) ?_
  refine (k26 _ hHeld.2.2.2.2.2.2).mono ?_
  rintro e w8 ⟨rfl, bw8⟩
  have qw8 : w8.cell? ⟨B7, 0, none⟩ = some (.int .i64 k) ∧ w8.cell? ⟨B7, 1, none⟩ = some (.int .i64 n) ∧ w8.cell? ⟨B7, 2, none⟩ = some (.slice (some ⟨gm, 0, none⟩) N dm) ∧ w8.cell? ⟨B3, 0, none⟩ = some (.int .i64 k) ∧ w8.cell? ⟨B3, 1, none⟩ = some (.int .i64 n) ∧ w8.cell? ⟨B3, 2, none⟩ = some (.slice ao N c) ∧ Below w7.heap.size w7 w8 := ⟨cell_stays hHeld.1 bw8, cell_stays hHeld.2.1 bw8, cell_stays hHeld.2.2.1 bw8, cell_stays hHeld.2.2.2.1 bw8, cell_stays hHeld.2.2.2.2.1 bw8, cell_stays hHeld.2.2.2.2.2.1 bw8, nextB hHeld.2.2.2.2.2.2 bw8⟩
  refine ⟨_, rfl, qw8, ?_⟩
  replace hHeld := qw8
  try simp only [Act.put, List.setIfInBounds_toArray, List.set_cons_zero, List.set_cons_succ]
  refine take_op (i := 5) (d := 13) (OP := Op.assign (Operand.tmp 43)) (T := 4) (v := ?vzz4) rfl rfl rfl rfl (by kernel_rfl) (by kernel_rfl) (by kernel_rfl) (fun _ _ _ h => h) (by rfl) ?hzz4 hHeld ?rzz4
  case hzz4 => (intro w' hSw; (try dsimp only at hSw); go_simp <;> with_reducible rfl)
  try simp only [Act.put, List.setIfInBounds_toArray, List.set_cons_zero, List.set_cons_succ]
  refine take_op (i := 6) (d := 14) (OP := Op.assign (Operand.tmp 46)) (T := 4) (v := ?vzz5) rfl rfl rfl rfl (by kernel_rfl) (by kernel_rfl) (by kernel_rfl) (fun _ _ _ h => h) (by rfl) ?hzz5 hHeld ?rzz5
  case hzz5 => (intro w' hSw; (try dsimp only at hSw); go_simp <;> with_reducible rfl)
  try simp only [Act.put, List.setIfInBounds_toArray, List.set_cons_zero, List.set_cons_succ]
  refine wpAnyH_done (by kernel_rfl) ?_ _
  have H8 := hide hHeld.2.2.2.2.2.2
  clear hHeld qd hS k25 k26 qz1 qw8 bz1 bw8
  have b48 := nextB HVB.out.2.1 H8.out
  have b18 := nextB HVB.out.2.2.1 H8.out
  have bW8 := nextB HVB.out.2.2.2 H8.out
  have e0 := H.out.2.2.2.1; have e1 := H.out.2.2.2.2.1
  have k27 : Calls Tryz.prog 27 #[vv k n ao N c, svT (g, r, l0, n0, i0), opv pa NP pc ok os d on tx] w8 (ValE w8 R) := by
    have := refApply_any k n (g, r, l0, n0, i0) (c := c) (pc := pc) ok os d on tx (H.out.1.below bW8).re (by omega) H.out.1.lab H.out.2.2.2.2.2 (H.out.2.1.below bW8).rs
    rw [← e0, ← e1, ← HR.out] at this
    exact this
  obtain ⟨x0, x1, x2, y0, y1, y2, y3, y4, z0, z1, z2, z3, z4, z5⟩ := up2.out w8 b18
  have HB8 := hide (And.intro b48 (And.intro b18 bW8))
  clear b48 b18 bW8 e0 e1
  go_upto_region 8 with (go_at_call 27; refine k27.mono ?_; rintro e w9 ⟨a6, c6, rfl, hn9, b9⟩; have H9 := hide (And.intro hn9 b9); clear hn9 b9 k27 x0 x1 x2 y0 y1 y2 y3 y4 z0 z1 z2 z3 z4 z5; dsimp only)
  obtain ⟨wA, hwA⟩ : ∃ W, W = w9.alloc (.cells #[.int .i64 R.1, .int .i64 R.2.1, .slice a6 R.2.2.1.length c6] 46) := ⟨_, rfl⟩
  have bwA : Below w9.heap.size w9 wA := by rw [hwA]; exact (Below.refl _ w9).alloc (Nat.le_refl _) _
  have rwA := heap_alloc_new w9 (.cells #[.int .i64 R.1, .int .i64 R.2.1, .slice a6 R.2.2.1.length c6] 46)
  rw [← hwA] at rwA
  obtain ⟨B15, hB15⟩ : ∃ B, B = w9.heap.size := ⟨_, rfl⟩
  rw [← hB15] at rwA
  rw [← hwA, ← hB15]
  have HA := hide (And.intro (nextB H9.out.2 bwA) (And.intro rwA bwA))
  clear hwA hB15 bwA rwA
  have b8A := HA.out.1
  have b4A := nextB HB8.out.1 b8A
  have b1A := nextB HB8.out.2.1 b8A
  have bWA := nextB HB8.out.2.2 b8A
  have b7A := nextB H8.out b8A
  have b6A := nextB H7.out.2 b7A
  have mB3 : wA.heap[B3]? = some (.cells #[.int .i64 k, .int .i64 n, .slice ao N c] 46 (0, 0)) := (b1A.block _ (Array.getElem?_eq_some_iff.1 HW.out.2.2.2.2.2.2.2.2.1).1).trans HW.out.2.2.2.2.2.2.2.2.1
  have mB4 : wA.heap[B4]? = some (.cells #[.int .i64 g, .int .i64 r, .string l0, .int .i64 n0, .int .i64 i0] 52 (0, 0)) := (b1A.block _ (Array.getElem?_eq_some_iff.1 HW.out.2.2.2.2.2.2.2.2.2.1).1).trans HW.out.2.2.2.2.2.2.2.2.2.1
  have mB5 : wA.heap[B5]? = some (.cells #[.slice pa NP pc, .int .i64 ok, .string os, .int .i64 d, .int .i64 on, .string tx] 26 (0, 0)) := (b1A.block _ (Array.getElem?_eq_some_iff.1 HW.out.2.2.2.2.2.2.2.2.2.2).1).trans HW.out.2.2.2.2.2.2.2.2.2.2
  have mB7 : wA.heap[B7]? = some (.cells #[.int .i64 k, .int .i64 n, .slice (some ⟨gm, 0, none⟩) N dm] 46 (0, 0)) := (b4A.block _ (Array.getElem?_eq_some_iff.1 H4.out.2.1).1).trans H4.out.2.1
  have mB8 : wA.heap[B8]? = some (.cells #[.int .i64 R.1, .int .i64 R.2.1, .slice a4 R.2.2.1.length c4] 46 (0, 0)) := (b6A.block _ (Array.getElem?_eq_some_iff.1 H6.out.2.1).1).trans H6.out.2.1
  have mB15 := HA.out.2.1
  have OA := HO4.out.1.below b4A
  have GA := HO4.out.1.blk
  obtain ⟨SA, RRA, -⟩ := OA.rowE
  have neB3 : B3 ≠ gm := fun e => row_ne RRA mB3 (by decide) e.symm
  have neB4 : B4 ≠ gm := fun e => row_ne RRA mB4 (by decide) e.symm
  have neB5 : B5 ≠ gm := fun e => row_ne RRA mB5 (by decide) e.symm
  have neB7 : B7 ≠ gm := fun e => row_ne RRA mB7 (by decide) e.symm
  have neB8 : B8 ≠ gm := fun e => row_ne RRA mB8 (by decide) e.symm
  have neB15 : B15 ≠ gm := fun e => row_ne RRA mB15 (by decide) e.symm
  have up : ∀ W, Only (fun j => j = gm) wA W → W.cell? ⟨B3, 0, none⟩ = some (.int .i64 k) ∧ W.cell? ⟨B3, 1, none⟩ = some (.int .i64 n) ∧ W.cell? ⟨B3, 2, none⟩ = some (.slice ao N c) ∧ W.cell? ⟨B4, 0, none⟩ = some (.int .i64 g) ∧ W.cell? ⟨B4, 1, none⟩ = some (.int .i64 r) ∧ W.cell? ⟨B4, 2, none⟩ = some (.string l0) ∧ W.cell? ⟨B4, 3, none⟩ = some (.int .i64 n0) ∧ W.cell? ⟨B4, 4, none⟩ = some (.int .i64 i0) ∧ W.cell? ⟨B5, 0, none⟩ = some (.slice pa NP pc) ∧ W.cell? ⟨B5, 1, none⟩ = some (.int .i64 ok) ∧ W.cell? ⟨B5, 2, none⟩ = some (.string os) ∧ W.cell? ⟨B5, 3, none⟩ = some (.int .i64 d) ∧ W.cell? ⟨B5, 4, none⟩ = some (.int .i64 on) ∧ W.cell? ⟨B5, 5, none⟩ = some (.string tx) ∧ W.cell? ⟨B7, 0, none⟩ = some (.int .i64 k) ∧ W.cell? ⟨B7, 1, none⟩ = some (.int .i64 n) ∧ W.cell? ⟨B7, 2, none⟩ = some (.slice (some ⟨gm, 0, none⟩) N dm) ∧ W.cell? ⟨B8, 0, none⟩ = some (.int .i64 R.1) ∧ W.cell? ⟨B8, 1, none⟩ = some (.int .i64 R.2.1) ∧ W.cell? ⟨B8, 2, none⟩ = some (.slice a4 R.2.2.1.length c4) ∧ W.cell? ⟨B15, 0, none⟩ = some (.int .i64 R.1) ∧ W.cell? ⟨B15, 1, none⟩ = some (.int .i64 R.2.1) ∧ W.cell? ⟨B15, 2, none⟩ = some (.slice a6 R.2.2.1.length c6) := fun W hW => by
    have zB3 := (hW.block _ (Array.getElem?_eq_some_iff.1 mB3).1 neB3).trans mB3
    have zB4 := (hW.block _ (Array.getElem?_eq_some_iff.1 mB4).1 neB4).trans mB4
    have zB5 := (hW.block _ (Array.getElem?_eq_some_iff.1 mB5).1 neB5).trans mB5
    have zB7 := (hW.block _ (Array.getElem?_eq_some_iff.1 mB7).1 neB7).trans mB7
    have zB8 := (hW.block _ (Array.getElem?_eq_some_iff.1 mB8).1 neB8).trans mB8
    have zB15 := (hW.block _ (Array.getElem?_eq_some_iff.1 mB15).1 neB15).trans mB15
    exact ⟨(cell_of_row _ _ 0 _ 46 (0, 0) zB3).trans rfl, (cell_of_row _ _ 1 _ 46 (0, 0) zB3).trans rfl, (cell_of_row _ _ 2 _ 46 (0, 0) zB3).trans rfl, (cell_of_row _ _ 0 _ 52 (0, 0) zB4).trans rfl, (cell_of_row _ _ 1 _ 52 (0, 0) zB4).trans rfl, (cell_of_row _ _ 2 _ 52 (0, 0) zB4).trans rfl, (cell_of_row _ _ 3 _ 52 (0, 0) zB4).trans rfl, (cell_of_row _ _ 4 _ 52 (0, 0) zB4).trans rfl, (cell_of_row _ _ 0 _ 26 (0, 0) zB5).trans rfl, (cell_of_row _ _ 1 _ 26 (0, 0) zB5).trans rfl, (cell_of_row _ _ 2 _ 26 (0, 0) zB5).trans rfl, (cell_of_row _ _ 3 _ 26 (0, 0) zB5).trans rfl, (cell_of_row _ _ 4 _ 26 (0, 0) zB5).trans rfl, (cell_of_row _ _ 5 _ 26 (0, 0) zB5).trans rfl, (cell_of_row _ _ 0 _ 46 (0, 0) zB7).trans rfl, (cell_of_row _ _ 1 _ 46 (0, 0) zB7).trans rfl, (cell_of_row _ _ 2 _ 46 (0, 0) zB7).trans rfl, (cell_of_row _ _ 0 _ 46 (0, 0) zB8).trans rfl, (cell_of_row _ _ 1 _ 46 (0, 0) zB8).trans rfl, (cell_of_row _ _ 2 _ 46 (0, 0) zB8).trans rfl, (cell_of_row _ _ 0 _ 46 (0, 0) zB15).trans rfl, (cell_of_row _ _ 1 _ 46 (0, 0) zB15).trans rfl, (cell_of_row _ _ 2 _ 46 (0, 0) zB15).trans rfl⟩
  have e0 := H.out.2.2.2.1
  have hszw := b2.size; have s34 := H4.out.2.2.size
  have reA : ∀ W, Only (fun j => j = gm) wA W → Re W ao l := fun W hW => (H.out.1.below bWA).re.onlyN hW (fun hne a ha hd => by have := H.out.1.re.lt hne a ha; omega)
  have k28 : Calls Tryz.prog 28 #[vv k n (some ⟨gm, 0, none⟩) N dm, vv k n ao N c] wA fun e w' => e = .returned (.bool true) ∧ Only (fun j => j = gm) wA w' := by
    have := left_any k n (c := c) (l := l) (by rw [← e0]; exact OA) (H.out.1.below bWA).re (by omega)
    rw [← e0] at this
    exact this
  have k29 : ∀ W, Only (fun j => j = gm) wA W → Calls Tryz.prog 29 #[vv R.1 R.2.1 a4 R.2.2.1.length c4, vv R.1 R.2.1 a6 R.2.2.1.length c6] W fun e w' => e = .returned (.bool true) ∧ Below W.heap.size W w' := fun W hW => by
    have x4 : Re wA a4 R.2.2.1 := (H5.out.1.rv.re.below H6.out.2.2).below b6A
    have x6 : Re wA a6 R.2.2.1 := H9.out.1.rv.re.below HA.out.2.2
    have s48 := HB8.out.1.size
    have y4 := x4.onlyN hW (fun _ a ha hd => by have := H5.out.1.new a ha; omega)
    have y6 := x6.onlyN hW (fun _ a ha hd => by have := H9.out.1.new a ha; omega)
    have := refSame_any R.1 R.2.1 R.1 R.2.1 (c := c4) (d := c6) y4 y6 (by omega) (by omega)
    rw [show sameV R.1 R.2.1 R.2.2.1 R.1 R.2.1 R.2.2.1 = true by simp [sameV]] at this
    exact this
  have k30 : ∀ W, Only (fun j => j = gm) wA W → Calls Tryz.prog 30 #[vv k n ao N c] W fun e w' => e = .returned (.bool VB) ∧ Below W.heap.size W w' := fun W hW => by
    have := refValue_any k n (c := c) (reA W hW) (by omega) H.out.1.lab
    rw [← e0, ← HVB.out.1] at this
    exact this
  have bfin : ∀ W, Only (fun j => j = gm) wA W → Below w.heap.size w W := fun W hW => Below.only bWA hW bWA.size (fun j e => by omega)
  have k7' : ∀ W, Only (fun j => j = gm) wA W → Calls Tryz.prog 7 #[] W fun e w' => e = .returned (.bool true) ∧ Below W.heap.size W w' := fun W hW => k7 W (bfin W hW)
  have hsh : TX = if VB = true then (n, showL k l, 0) else (0, [], 2) := by rw [HTX.out, HVB.out.1]; rfl
  have k32 : ∀ W, Only (fun j => j = gm) wA W → Calls Tryz.prog 32 #[vv k n ao N c] W (fun e w' => ∃ a' c', e = .returned (.slice a' (showL k l).length c') ∧ Rs w' a' (showL k l) ∧ Below W.heap.size W w') := fun W hW => by
    have := refTexts_any k n (c := c) (reA W hW) (by omega)
    unfold TxsE at this
    rw [← e0] at this
    exact this
  have hshl : (showL k l).length ≤ 1000 := by have := showL_len k l l.length (Nat.le_refl _); rw [List.take_length] at this; omega
  have rsA : ∀ W, Only (fun j => j = gm) wA W → Rs W ta TX.2.1 := fun W hW => by
    have h7 := (H7.out.1.below b7A)
    refine ⟨h7.rp.rs.1, fun a ha j s hj => ?_⟩
    have hbl : (a.add j).block = a.block := by unfold Addr.add; split <;> rfl
    have s46 := H6.out.1.size
    exact hW.cell (h7.rp.rs.2 a ha j s hj) (by have := H7.out.1.new a ha; rw [hbl]; omega)
  replace up := hide up
  replace bfin := hide bfin
  replace rsA := hide rsA
  have o8 : Only (fun j => j = gm) wA wA := Only.refl _ _
  obtain ⟨x0, x1, x2, y0, y1, y2, y3, y4, z0, z1, z2, z3, z4, z5, p0, p1, p2, s0, s1, s2, v0, v1, v2⟩ := up.out wA o8
  clear k7 b8A b4A b1A bWA b7A b6A reA e0 hszw s34 hRl b2 o8 OA GA RRA mB3 neB3 mB4 neB4 mB5 neB5 mB7 neB7 mB8 neB8 mB15 neB15
  cases VB
  · rw [if_neg (by decide)] at hsh
    subst hsh
    have dd : (([] : List ByteArray).length : Int) = 0 := rfl
    go_wp2_with (first
      | (go_at_call 28; refine k28.mono ?_; rintro e wB ⟨rfl, oB⟩; have HBB := hide oB; clear x0 x1 x2 y0 y1 y2 y3 y4 z0 z1 z2 z3 z4 z5 p0 p1 p2 s0 s1 s2 v0 v1 v2 oB k28; obtain ⟨x0, x1, x2, y0, y1, y2, y3, y4, z0, z1, z2, z3, z4, z5, p0, p1, p2, s0, s1, s2, v0, v1, v2⟩ := up.out wB HBB.out; dsimp only)
      | (go_at_call 29; refine (k29 _ HBB.out).mono ?_; rintro e wC ⟨rfl, bC⟩; have HC := hide (HBB.out.next (below_only bC)); clear x0 x1 x2 y0 y1 y2 y3 y4 z0 z1 z2 z3 z4 z5 p0 p1 p2 s0 s1 s2 v0 v1 v2 bC k29; obtain ⟨x0, x1, x2, y0, y1, y2, y3, y4, z0, z1, z2, z3, z4, z5, p0, p1, p2, s0, s1, s2, v0, v1, v2⟩ := up.out wC HC.out; dsimp only)
      | (go_at_call 12; refine (num_any _ _).mono ?_; rintro e wn ⟨rfl, hwn⟩; have hwn2 := hwn.symm; subst hwn2; clear hwn; dsimp only)
      | (go_at_call 30; refine (k30 _ HC.out).mono ?_; rintro e wD ⟨rfl, bD⟩; have HD := hide (HC.out.next (below_only bD)); clear x0 x1 x2 y0 y1 y2 y3 y4 z0 z1 z2 z3 z4 z5 p0 p1 p2 s0 s1 s2 v0 v1 v2 bD k30; obtain ⟨x0, x1, x2, y0, y1, y2, y3, y4, z0, z1, z2, z3, z4, z5, p0, p1, p2, s0, s1, s2, v0, v1, v2⟩ := up.out wD HD.out; dsimp only)
      | (go_at_call 7; refine (k7' _ HD.out).mono ?_; rintro e wF ⟨rfl, bF⟩; have HFF := hide (HD.out.next (below_only bF)); clear x0 x1 x2 y0 y1 y2 y3 y4 z0 z1 z2 z3 z4 z5 p0 p1 p2 s0 s1 s2 v0 v1 v2 bF k7'; dsimp only))
    go_ret
    exact ⟨rfl, bfin.out _ HFF.out⟩
  · rw [if_pos rfl] at hsh
    obtain ⟨SL, hSL⟩ : ∃ L, L = showL k l := ⟨_, rfl⟩
    rw [← hSL] at hsh k32 hshl
    subst hsh
    clear hSL
    have k31 : ∀ W ea ec, Only (fun j => j = gm) wA W → Rs W ea SL → Calls Tryz.prog 31 #[.slice ta SL.length tc, .slice ea SL.length ec] W fun e w' => e = .returned (.bool true) ∧ Below W.heap.size W w' := fun W ea ec hW hr => (sameTexts_any (l := SL) (m := SL) (rsA.out W hW) hr (by omega) (by omega)).mono fun e w' hh => ⟨by rw [hh.1]; simp, by obtain ⟨nn, h2⟩ := hh.2; rw [h2]; exact below_drw (Below.refl _ _) _⟩
    go_wp2_with (first
      | (go_at_call 28; refine k28.mono ?_; rintro e wB ⟨rfl, oB⟩; have HBB := hide oB; clear x0 x1 x2 y0 y1 y2 y3 y4 z0 z1 z2 z3 z4 z5 p0 p1 p2 s0 s1 s2 v0 v1 v2 oB k28; obtain ⟨x0, x1, x2, y0, y1, y2, y3, y4, z0, z1, z2, z3, z4, z5, p0, p1, p2, s0, s1, s2, v0, v1, v2⟩ := up.out wB HBB.out; dsimp only)
      | (go_at_call 29; refine (k29 _ HBB.out).mono ?_; rintro e wC ⟨rfl, bC⟩; have HC := hide (HBB.out.next (below_only bC)); clear x0 x1 x2 y0 y1 y2 y3 y4 z0 z1 z2 z3 z4 z5 p0 p1 p2 s0 s1 s2 v0 v1 v2 bC k29; obtain ⟨x0, x1, x2, y0, y1, y2, y3, y4, z0, z1, z2, z3, z4, z5, p0, p1, p2, s0, s1, s2, v0, v1, v2⟩ := up.out wC HC.out; dsimp only)
      | (go_at_call 12; refine (num_any _ _).mono ?_; rintro e wn ⟨rfl, hwn⟩; have hwn2 := hwn.symm; subst hwn2; clear hwn; dsimp only)
      | (go_at_call 30; refine (k30 _ HC.out).mono ?_; rintro e wD ⟨rfl, bD⟩; have HD := hide (HC.out.next (below_only bD)); clear x0 x1 x2 y0 y1 y2 y3 y4 z0 z1 z2 z3 z4 z5 p0 p1 p2 s0 s1 s2 v0 v1 v2 bD k30; obtain ⟨x0, x1, x2, y0, y1, y2, y3, y4, z0, z1, z2, z3, z4, z5, p0, p1, p2, s0, s1, s2, v0, v1, v2⟩ := up.out wD HD.out; dsimp only)
      | (go_at_call 32; refine (k32 _ HD.out).mono ?_; rintro e wE ⟨ea, ec, rfl, hrE, bE⟩; have HE := hide (And.intro (HD.out.next (below_only bE)) hrE); clear x0 x1 x2 y0 y1 y2 y3 y4 z0 z1 z2 z3 z4 z5 p0 p1 p2 s0 s1 s2 v0 v1 v2 bE hrE k32; obtain ⟨x0, x1, x2, y0, y1, y2, y3, y4, z0, z1, z2, z3, z4, z5, p0, p1, p2, s0, s1, s2, v0, v1, v2⟩ := up.out wE HE.out.1; dsimp only)
      | (go_at_call 31; refine (k31 _ _ _ HE.out.1 HE.out.2).mono ?_; rintro e wG ⟨rfl, bG⟩; have HF := hide (HE.out.1.next (below_only bG)); clear x0 x1 x2 y0 y1 y2 y3 y4 z0 z1 z2 z3 z4 z5 p0 p1 p2 s0 s1 s2 v0 v1 v2 bG k31; obtain ⟨x0, x1, x2, y0, y1, y2, y3, y4, z0, z1, z2, z3, z4, z5, p0, p1, p2, s0, s1, s2, v0, v1, v2⟩ := up.out wG HF.out; dsimp only)
      | (go_at_call 7; refine (k7' _ HF.out).mono ?_; rintro e wF ⟨rfl, bF⟩; have HFF := hide (HF.out.next (below_only bF)); clear x0 x1 x2 y0 y1 y2 y3 y4 z0 z1 z2 z3 z4 z5 p0 p1 p2 s0 s1 s2 v0 v1 v2 bF k7'; dsimp only))
    go_ret
    exact ⟨rfl, bfin.out _ HFF.out⟩
end Go.Proofs.YtkdgageljgfgoaaGreatDoor
