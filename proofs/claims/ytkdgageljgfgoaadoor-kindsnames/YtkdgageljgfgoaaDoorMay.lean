/-
  kinds: mayStand 56, Value 25.
-/
import Derived.Test.YtkdgageljgfgoaaDoorBehind
import Derived.Test.YtkdgageljgfgoaaDoorOf9
namespace Go.Proofs.YtkdgageljgfgoaaDoor
open Go.RowKit Go.Shelf
set_option linter.unusedSimpArgs false
attribute [local go_sem] Oper.semAt_some

def stV (s : St) : Bool := stampV s.1 s.2.1 s.2.2.1 s.2.2.2.1 s.2.2.2.2
/-- May an element stand behind those? -/
def okB (x : El) (l : List El) : Bool := stV x.1 && textB x.2 && behindB x.1 l
/-- The first k of l may stand. -/
def mayPre (l : List El) (k : Nat) : Prop := ∀ j x, j < k → l[j]? = some x → okB x (l.take j) = true
/-- May these be the elements of a value? -/
def mayB (l : List El) : Bool := (List.range l.length).all fun j => match l[j]? with
  | some x => okB x (l.take j)
  | none => true
theorem mayB_iff (l : List El) : mayB l = true ↔ mayPre l l.length := by
  unfold mayB mayPre
  rw [List.all_eq_true]
  constructor
  · intro h j x hj hx
    have := h j (List.mem_range.2 hj)
    rw [hx] at this
    exact this
  · intro h j hj
    cases hx : l[j]? with
    | none => rfl
    | some x => exact h j x (List.mem_range.1 hj) hx
theorem new6 (w : World) (v0 v1 v2 v3 v4 v5 : Value) (t : TypeId) : (w.alloc (.cells #[v0, v1, v2, v3, v4, v5] t)).cell? ⟨w.heap.size, 0, none⟩ = some v0 ∧ (w.alloc (.cells #[v0, v1, v2, v3, v4, v5] t)).cell? ⟨w.heap.size, 1, none⟩ = some v1 ∧ (w.alloc (.cells #[v0, v1, v2, v3, v4, v5] t)).cell? ⟨w.heap.size, 2, none⟩ = some v2 ∧ (w.alloc (.cells #[v0, v1, v2, v3, v4, v5] t)).cell? ⟨w.heap.size, 3, none⟩ = some v3 ∧ (w.alloc (.cells #[v0, v1, v2, v3, v4, v5] t)).cell? ⟨w.heap.size, 4, none⟩ = some v4 ∧ (w.alloc (.cells #[v0, v1, v2, v3, v4, v5] t)).cell? ⟨w.heap.size, 5, none⟩ = some v5 := by
  have h := heap_alloc_new w (.cells #[v0, v1, v2, v3, v4, v5] t)
  exact ⟨(cell_of_row _ _ 0 _ t (0, 0) h).trans rfl, (cell_of_row _ _ 1 _ t (0, 0) h).trans rfl, (cell_of_row _ _ 2 _ t (0, 0) h).trans rfl, (cell_of_row _ _ 3 _ t (0, 0) h).trans rfl, (cell_of_row _ _ 4 _ t (0, 0) h).trans rfl, (cell_of_row _ _ 5 _ t (0, 0) h).trans rfl⟩
theorem exec_slE {ev : Operand → Value} {x z : Operand} {T : TypeId} {w : World} {u b v : Value} (hx : ev x = u) (hz : ev z = b) (h : (Instr.slice 28 u none (some b) none).run Tryd.prog w = .ok v w) :
    (execOp ev { dst := none, op := .slice 28 x none (some z) none, type := T, pos := "", after := #[], guard := none }).run Tryd.prog w = .ok (.value v) w := by
  have h2 : (Instr.sliceAt 28 u none (some b) none).run Tryd.prog w = .ok v w := by simp [Instr.sliceAt, run_underlying Tryd.underlying28, h]
  simp [execOp, hx, hz, h2, Result.andThen]
theorem sliceE_hi {ao : Option Addr} {n c j : Nat} (hj : j ≤ c) (hs : ∀ a, ao = some a → a.spot = none) (w : World) : (Instr.slice 28 (.slice ao n c) none (some (.int .i64 j)) none).run Tryd.prog w = .ok (.slice ao j c) w := by
  have h2 : (0 : Int) ≤ (j : Int) ∧ (j : Int) ≤ (c : Int) := by omega
  have hA : (if c = 0 then ao else ao.map (fun x => x.add (0 * 6))) = ao := by
    split
    · rfl
    · cases ao with
      | none => rfl
      | some a => obtain ⟨b, o, s⟩ := a; have := hs _ rfl; simp only at this; subst this; rw [Option.map_some, add_lit]; simp
  have : (Instr.slice 28 (.slice ao n c) none (some (.int .i64 j)) none).run Tryd.prog w = .ok (.slice (if c = 0 then ao else ao.map (fun x => x.add (0 * 6))) j c) w := by
    simp [Instr.slice, Instr.sliceBounds, Instr.sliceBound, asIntOf, run_underlying Tryd.underlying28, go_sem, hj, Tryd.sizeOf58]
  rw [this, hA]

set_option maxHeartbeats 4000000 in
set_option maxRecDepth 100000 in
theorem mayStand_any {w : World} {ao : Option Addr} {c : Nat} {l : List El} (h : Re w ao l) (hc : l.length ≤ c) (hl : l.length ≤ 1000000) (hsp : ∀ a, ao = some a → a.spot = none) : Calls Tryd.prog 41 #[.slice ao l.length c] w fun e w' => e = .returned (.bool (mayB l)) ∧ Below w.heap.size w w' := by
  obtain ⟨N, hN⟩ : ∃ N, N = l.length := ⟨_, rfl⟩
  obtain ⟨R, hR⟩ : ∃ R, R = mayB l := ⟨_, rfl⟩
  rw [← hN] at hl hc
  rw [← hN, ← hR]
  have H := hide (And.intro hN (And.intro hR (And.intro h hsp)))
  clear hN hR h hsp
  go_enter Tryd.func41, Tryd.ntmps41
  go_wp2
  go_loopw [7] (fun iv wr => ∃ k : Nat, k ≤ N ∧ iv = .int .i64 k ∧ Hid (mayPre l k ∧ Below w.heap.size w wr)) (fun iv _ => N - (intOf iv).toNat)
  case atStart => exact ⟨0, Nat.zero_le _, rfl, hide ⟨fun j x hj => by omega, Below.refl _ _⟩⟩
  case round =>
    obtain ⟨k, hk, rfl, hP⟩ := hrel
    by_cases hlt : k < N
    · have d1 : decide (k < N) = true := by simpa using hlt
      have d1' : (k : Int) < (N : Int) := by omega
      obtain ⟨x, hx⟩ : ∃ x, l[k]? = some x := ⟨_, List.getElem?_eq_getElem (by rw [← H.out.1]; exact hlt)⟩
      have hre := H.out.2.2.1.below hP.out.2
      obtain ⟨b, off, hao, q0, q1, q2, q3, q4, q5⟩ := hre.cells hx
      have hsl := fun W => sliceE_hi (ao := ao) (n := N) (c := c) (j := k) (by omega) H.out.2.2.2 W
      have htk : (l.take k).length = k := by rw [List.length_take, ← H.out.1]; omega
      have k54 := fun W => stamp_any x.1.1 x.1.2.1 x.1.2.2.1 x.1.2.2.2.1 x.1.2.2.2.2 W
      have k47 := fun W => text_any x.2 W
      obtain ⟨w1, hw1⟩ : ∃ w1, w1 = wr.alloc (.cells #[.int .i64 x.1.1, .int .i64 x.1.2.1, .string x.1.2.2.1, .int .i64 x.1.2.2.2.1, .int .i64 x.1.2.2.2.2, .string x.2] 58) := ⟨_, rfl⟩
      have b1 : Below wr.heap.size wr w1 := by rw [hw1]; exact (Below.refl _ wr).alloc (Nat.le_refl _) _
      have k55 := fun (W : World) (hW : Below w1.heap.size w1 W) => behind_any (c := c) x.1 ((hre.take k).below (b1.trans (hW.mono b1.size))) (by rw [htk]; omega)
      rw [htk] at k55
      have hok : okB x (l.take k) = (stV x.1 && textB x.2 && behindB x.1 (l.take k)) := rfl
      have hst : stV x.1 = stampV x.1.1 x.1.2.1 x.1.2.2.1 x.1.2.2.2.1 x.1.2.2.2.2 := rfl
      obtain ⟨V1, hV1⟩ : ∃ V, V = stampV x.1.1 x.1.2.1 x.1.2.2.1 x.1.2.2.2.1 x.1.2.2.2.2 := ⟨_, rfl⟩
      obtain ⟨V2, hV2⟩ : ∃ V, V = textB x.2 := ⟨_, rfl⟩
      obtain ⟨V3, hV3⟩ : ∃ V, V = behindB x.1 (l.take k) := ⟨_, rfl⟩
      rw [hst, ← hV1, ← hV2, ← hV3] at hok
      simp only [← hV1] at k54
      simp only [← hV2] at k47
      simp only [← hV3] at k55
      clear hst hV1 hV2 hV3
      subst hao
      obtain ⟨⟨g, r, l0, n0, i0⟩, t0⟩ := x
      dsimp only at q0 q1 q2 q3 q4 q5 k54 k47 k55 hw1
      obtain ⟨p0, p1, p2, p3, p4, p5⟩ := new6 wr (.int .i64 g) (.int .i64 r) (.string l0) (.int .i64 n0) (.int .i64 i0) (.string t0) 58
      rw [← hw1] at p0 p1 p2 p3 p4 p5
      obtain ⟨BX, hBX⟩ : ∃ B, B = wr.heap.size := ⟨_, rfl⟩
      rw [← hBX] at p0 p1 p2 p3 p4 p5
      have hS : w1.cell? ⟨BX, 0, none⟩ = some (.int .i64 g) ∧ w1.cell? ⟨BX, 1, none⟩ = some (.int .i64 r) ∧ w1.cell? ⟨BX, 2, none⟩ = some (.string l0) ∧ w1.cell? ⟨BX, 3, none⟩ = some (.int .i64 n0) ∧ w1.cell? ⟨BX, 4, none⟩ = some (.int .i64 i0) ∧ w1.cell? ⟨BX, 5, none⟩ = some (.string t0) ∧ Below w1.heap.size w1 w1 := ⟨p0, p1, p2, p3, p4, p5, Below.refl _ _⟩
      have HX := hide (And.intro hx (And.intro hok (And.intro hw1 (And.intro hBX b1))))
      clear hx hok hre htk b1 p0 p1 p2 p3 p4 p5 hw1 hBX
      have bw1 : Below w.heap.size w w1 := hP.out.2.trans (HX.out.2.2.2.2.mono hP.out.2.size)
      have HB1 := hide bw1
      clear bw1
      go_upto_region 4 with fail
      clear q0 q1 q2 q3 q4 q5
      have ew1 := HX.out.2.2.1
      have eBX := HX.out.2.2.2.1
      rw [← ew1]
      simp only [← eBX]
      clear ew1 eBX
      cases V1
      · clear k47 k55
        have qd : w1.drew.cell? ⟨BX, 0, none⟩ = some (.int .i64 g) ∧ w1.drew.cell? ⟨BX, 1, none⟩ = some (.int .i64 r) ∧ w1.drew.cell? ⟨BX, 2, none⟩ = some (.string l0) ∧ w1.drew.cell? ⟨BX, 3, none⟩ = some (.int .i64 n0) ∧ w1.drew.cell? ⟨BX, 4, none⟩ = some (.int .i64 i0) ∧ w1.drew.cell? ⟨BX, 5, none⟩ = some (.string t0) ∧ Below w1.heap.size w1 w1.drew := keepB6 hS (drew_below w1)
        refine wp_region_held_drew (S := (fun w' => w'.cell? ⟨BX, 0, none⟩ = some (.int .i64 g) ∧ w'.cell? ⟨BX, 1, none⟩ = some (.int .i64 r) ∧ w'.cell? ⟨BX, 2, none⟩ = some (.string l0) ∧ w'.cell? ⟨BX, 3, none⟩ = some (.int .i64 n0) ∧ w'.cell? ⟨BX, 4, none⟩ = some (.int .i64 i0) ∧ w'.cell? ⟨BX, 5, none⟩ = some (.string t0) ∧ Below w1.heap.size w1 w')) (by kernel_rfl) qd (fun hHeld => ?_)
        try dsimp only at hHeld
        refine take_op (i := 0) (d := 12) (OP := Op.fieldAddr 58 (Operand.tmp 4) 0) (T := 0) (v := ?vzz1) rfl rfl rfl rfl (by kernel_rfl) (by kernel_rfl) (by kernel_rfl) (fun _ _ _ h => h) (by rfl) ?hzz1 hHeld ?rzz1
        case hzz1 => (intro w' hSw; (try dsimp only at hSw); go_simp <;> with_reducible rfl)
        try simp only [Act.put, List.setIfInBounds_toArray, List.set_cons_zero, List.set_cons_succ]
        refine take_op (i := 1) (d := 13) (OP := Op.load 46 (Operand.tmp 12)) (T := 46) (v := ?vzz2) rfl rfl rfl rfl (by kernel_rfl) (by kernel_rfl) (by kernel_rfl) (fun _ _ _ h => h) (by rfl) ?hzz2 hHeld ?rzz2
        case hzz2 => (intro w' hSw; (try dsimp only at hSw); go_simp <;> with_reducible rfl)
        try simp only [Act.put, List.setIfInBounds_toArray, List.set_cons_zero, List.set_cons_succ]
        refine call_op (i := 2) (d := 14) (OP := Op.call { callee := Callee.value (Operand.func 24), args := #[Operand.tmp 13], argTypes := #[46] }) (T := 4) (f := 24) (args := #[.agg #[.int .i64 g, .int .i64 r, .string l0, .int .i64 n0, .int .i64 i0]]) rfl rfl rfl rfl (by kernel_rfl) (by rfl) (by go_simp) ?_
        refine (k54 _).mono ?_
        rintro e z0 ⟨rfl, bz0⟩
        have qz := keepB6 hHeld bz0
        refine ⟨_, rfl, qz, ?_⟩
        replace hHeld := qz
        try simp only [Act.put, List.setIfInBounds_toArray, List.set_cons_zero, List.set_cons_succ]
        refine take_op (i := 3) (d := 15) (OP := Op.unOp UnOp.not 4 (Operand.tmp 14)) (T := 4) (v := ?vzz3) rfl rfl rfl rfl (by kernel_rfl) (by kernel_rfl) (by kernel_rfl) (fun _ _ _ h => h) (by rfl) ?hzz3 hHeld ?rzz3
        case hzz3 => (intro w' hSw; (try dsimp only at hSw); go_simp <;> with_reducible rfl)
        try simp only [Act.put, List.setIfInBounds_toArray, List.set_cons_zero, List.set_cons_succ]
        refine take_op (i := 4) (d := 16) (OP := Op.move (Operand.tmp 15)) (T := 4) (v := ?vzz4) rfl rfl rfl rfl (by kernel_rfl) (by kernel_rfl) (by kernel_rfl) (fun _ _ _ h => h) (by rfl) ?hzz4 hHeld ?rzz4
        case hzz4 => (intro w' hSw; (try dsimp only at hSw); go_simp <;> with_reducible rfl)
        try simp only [Act.put, List.setIfInBounds_toArray, List.set_cons_zero, List.set_cons_succ]
        refine pass_op (i := 5) (d := 17) rfl rfl (by kernel_rfl) (by kernel_rfl) (by kernel_rfl) (fun _ _ _ h => h) (by rfl) hHeld ?_
        try simp only [Act.put, List.setIfInBounds_toArray, List.set_cons_zero, List.set_cons_succ]
        refine pass_op (i := 6) (d := 18) rfl rfl (by kernel_rfl) (by kernel_rfl) (by kernel_rfl) (fun _ _ _ h => h) (by rfl) hHeld ?_
        try simp only [Act.put, List.setIfInBounds_toArray, List.set_cons_zero, List.set_cons_succ]
        refine pass_op (i := 7) (d := 19) rfl rfl (by kernel_rfl) (by kernel_rfl) (by kernel_rfl) (fun _ _ _ h => h) (by rfl) hHeld ?_
        try simp only [Act.put, List.setIfInBounds_toArray, List.set_cons_zero, List.set_cons_succ]
        refine pass_op (i := 8) (d := 20) rfl rfl (by kernel_rfl) (by kernel_rfl) (by kernel_rfl) (fun _ _ _ h => h) (by rfl) hHeld ?_
        try simp only [Act.put, List.setIfInBounds_toArray, List.set_cons_zero, List.set_cons_succ]
        refine take_op (i := 9) (d := 21) (OP := Op.pick (Operand.tmp 16) (Operand.const (Value.bool true)) (Operand.tmp 20)) (T := 4) (v := ?vzz5) rfl rfl rfl rfl (by kernel_rfl) (by kernel_rfl) (by kernel_rfl) (fun _ _ _ h => h) (by rfl) ?hzz5 hHeld ?rzz5
        case hzz5 => (intro w' hSw; (try dsimp only at hSw); go_simp <;> with_reducible rfl)
        try simp only [Act.put, List.setIfInBounds_toArray, List.set_cons_zero, List.set_cons_succ]
        refine take_op (i := 10) (d := 22) (OP := Op.move (Operand.tmp 21)) (T := 4) (v := ?vzz6) rfl rfl rfl rfl (by kernel_rfl) (by kernel_rfl) (by kernel_rfl) (fun _ _ _ h => h) (by rfl) ?hzz6 hHeld ?rzz6
        case hzz6 => (intro w' hSw; (try dsimp only at hSw); go_simp <;> with_reducible rfl)
        try simp only [Act.put, List.setIfInBounds_toArray, List.set_cons_zero, List.set_cons_succ]
        refine pass_op (i := 11) (d := 23) rfl rfl (by kernel_rfl) (by kernel_rfl) (by kernel_rfl) (fun _ _ _ h => h) (by rfl) hHeld ?_
        try simp only [Act.put, List.setIfInBounds_toArray, List.set_cons_zero, List.set_cons_succ]
        refine pass_op (i := 12) (d := 24) rfl rfl (by kernel_rfl) (by kernel_rfl) (by kernel_rfl) (fun _ _ _ h => h) (by rfl) hHeld ?_
        try simp only [Act.put, List.setIfInBounds_toArray, List.set_cons_zero, List.set_cons_succ]
        refine pass_op (i := 13) (d := 25) rfl rfl (by kernel_rfl) (by kernel_rfl) (by kernel_rfl) (fun _ _ _ h => h) (by rfl) hHeld ?_
        try simp only [Act.put, List.setIfInBounds_toArray, List.set_cons_zero, List.set_cons_succ]
        refine pass_op (i := 14) (d := 26) rfl rfl (by kernel_rfl) (by kernel_rfl) (by kernel_rfl) (fun _ _ _ h => h) (by rfl) hHeld ?_
        try simp only [Act.put, List.setIfInBounds_toArray, List.set_cons_zero, List.set_cons_succ]
        refine pass_op (i := 15) (d := 27) rfl rfl (by kernel_rfl) (by kernel_rfl) (by kernel_rfl) (fun _ _ _ h => h) (by rfl) hHeld ?_
        try simp only [Act.put, List.setIfInBounds_toArray, List.set_cons_zero, List.set_cons_succ]
        refine pass_op (i := 16) (d := 28) rfl rfl (by kernel_rfl) (by kernel_rfl) (by kernel_rfl) (fun _ _ _ h => h) (by rfl) hHeld ?_
        try simp only [Act.put, List.setIfInBounds_toArray, List.set_cons_zero, List.set_cons_succ]
        refine pass_op (i := 17) (d := 29) rfl rfl (by kernel_rfl) (by kernel_rfl) (by kernel_rfl) (fun _ _ _ h => h) (by rfl) hHeld ?_
        try simp only [Act.put, List.setIfInBounds_toArray, List.set_cons_zero, List.set_cons_succ]
        refine take_op (i := 18) (d := 30) (OP := Op.pick (Operand.tmp 22) (Operand.const (Value.bool true)) (Operand.tmp 29)) (T := 4) (v := ?vzz7) rfl rfl rfl rfl (by kernel_rfl) (by kernel_rfl) (by kernel_rfl) (fun _ _ _ h => h) (by rfl) ?hzz7 hHeld ?rzz7
        case hzz7 => (intro w' hSw; (try dsimp only at hSw); go_simp <;> with_reducible rfl)
        try simp only [Act.put, List.setIfInBounds_toArray, List.set_cons_zero, List.set_cons_succ]
        refine wpAnyH_done (by kernel_rfl) ?_ _
        have HE := hide hHeld.2.2.2.2.2.2
        clear hHeld qd hS
        go_wp2
        go_ret
        refine ⟨?_, HB1.out.trans (HE.out.mono HB1.out.size)⟩
        have : R = false := by
          rw [H.out.2.1, Bool.eq_false_iff, Ne, mayB_iff]
          intro hm
          have := hm k _ (by rw [← H.out.1]; exact hlt) HX.out.1
          rw [HX.out.2.1] at this
          simp at this
        rw [this]; rfl
      · cases V2
        · clear k55
          have qd : w1.drew.cell? ⟨BX, 0, none⟩ = some (.int .i64 g) ∧ w1.drew.cell? ⟨BX, 1, none⟩ = some (.int .i64 r) ∧ w1.drew.cell? ⟨BX, 2, none⟩ = some (.string l0) ∧ w1.drew.cell? ⟨BX, 3, none⟩ = some (.int .i64 n0) ∧ w1.drew.cell? ⟨BX, 4, none⟩ = some (.int .i64 i0) ∧ w1.drew.cell? ⟨BX, 5, none⟩ = some (.string t0) ∧ Below w1.heap.size w1 w1.drew := keepB6 hS (drew_below w1)
          refine wp_region_held_drew (S := (fun w' => w'.cell? ⟨BX, 0, none⟩ = some (.int .i64 g) ∧ w'.cell? ⟨BX, 1, none⟩ = some (.int .i64 r) ∧ w'.cell? ⟨BX, 2, none⟩ = some (.string l0) ∧ w'.cell? ⟨BX, 3, none⟩ = some (.int .i64 n0) ∧ w'.cell? ⟨BX, 4, none⟩ = some (.int .i64 i0) ∧ w'.cell? ⟨BX, 5, none⟩ = some (.string t0) ∧ Below w1.heap.size w1 w')) (by kernel_rfl) qd (fun hHeld => ?_)
          try dsimp only at hHeld
          refine take_op (i := 0) (d := 12) (OP := Op.fieldAddr 58 (Operand.tmp 4) 0) (T := 0) (v := ?vzz8) rfl rfl rfl rfl (by kernel_rfl) (by kernel_rfl) (by kernel_rfl) (fun _ _ _ h => h) (by rfl) ?hzz8 hHeld ?rzz8
          case hzz8 => (intro w' hSw; (try dsimp only at hSw); go_simp <;> with_reducible rfl)
          try simp only [Act.put, List.setIfInBounds_toArray, List.set_cons_zero, List.set_cons_succ]
          refine take_op (i := 1) (d := 13) (OP := Op.load 46 (Operand.tmp 12)) (T := 46) (v := ?vzz9) rfl rfl rfl rfl (by kernel_rfl) (by kernel_rfl) (by kernel_rfl) (fun _ _ _ h => h) (by rfl) ?hzz9 hHeld ?rzz9
          case hzz9 => (intro w' hSw; (try dsimp only at hSw); go_simp <;> with_reducible rfl)
          try simp only [Act.put, List.setIfInBounds_toArray, List.set_cons_zero, List.set_cons_succ]
          refine call_op (i := 2) (d := 14) (OP := Op.call { callee := Callee.value (Operand.func 24), args := #[Operand.tmp 13], argTypes := #[46] }) (T := 4) (f := 24) (args := #[.agg #[.int .i64 g, .int .i64 r, .string l0, .int .i64 n0, .int .i64 i0]]) rfl rfl rfl rfl (by kernel_rfl) (by rfl) (by go_simp) ?_
          refine (k54 _).mono ?_
          rintro e z0 ⟨rfl, bz0⟩
          have qz := keepB6 hHeld bz0
          refine ⟨_, rfl, qz, ?_⟩
          replace hHeld := qz
          try simp only [Act.put, List.setIfInBounds_toArray, List.set_cons_zero, List.set_cons_succ]
          refine take_op (i := 3) (d := 15) (OP := Op.unOp UnOp.not 4 (Operand.tmp 14)) (T := 4) (v := ?vzz10) rfl rfl rfl rfl (by kernel_rfl) (by kernel_rfl) (by kernel_rfl) (fun _ _ _ h => h) (by rfl) ?hzz10 hHeld ?rzz10
          case hzz10 => (intro w' hSw; (try dsimp only at hSw); go_simp <;> with_reducible rfl)
          try simp only [Act.put, List.setIfInBounds_toArray, List.set_cons_zero, List.set_cons_succ]
          refine take_op (i := 4) (d := 16) (OP := Op.move (Operand.tmp 15)) (T := 4) (v := ?vzz11) rfl rfl rfl rfl (by kernel_rfl) (by kernel_rfl) (by kernel_rfl) (fun _ _ _ h => h) (by rfl) ?hzz11 hHeld ?rzz11
          case hzz11 => (intro w' hSw; (try dsimp only at hSw); go_simp <;> with_reducible rfl)
          try simp only [Act.put, List.setIfInBounds_toArray, List.set_cons_zero, List.set_cons_succ]
          refine take_op (i := 5) (d := 17) (OP := Op.fieldAddr 58 (Operand.tmp 4) 1) (T := 0) (v := ?vzz12) rfl rfl rfl rfl (by kernel_rfl) (by kernel_rfl) (by kernel_rfl) (fun _ _ _ h => h) (by rfl) ?hzz12 hHeld ?rzz12
          case hzz12 => (intro w' hSw; (try dsimp only at hSw); go_simp <;> with_reducible rfl)
          try simp only [Act.put, List.setIfInBounds_toArray, List.set_cons_zero, List.set_cons_succ]
          refine take_op (i := 6) (d := 18) (OP := Op.load 9 (Operand.tmp 17)) (T := 9) (v := ?vzz13) rfl rfl rfl rfl (by kernel_rfl) (by kernel_rfl) (by kernel_rfl) (fun _ _ _ h => h) (by rfl) ?hzz13 hHeld ?rzz13
          case hzz13 => (intro w' hSw; (try dsimp only at hSw); go_simp <;> with_reducible rfl)
          try simp only [Act.put, List.setIfInBounds_toArray, List.set_cons_zero, List.set_cons_succ]
          refine call_op (i := 7) (d := 19) (OP := Op.call { callee := Callee.value (Operand.func 40), args := #[Operand.tmp 18], argTypes := #[9] }) (T := 4) (f := 40) (args := #[.string t0]) rfl rfl rfl rfl (by kernel_rfl) (by rfl) (by go_simp) ?_
          refine (k47 _).mono ?_
          rintro e z1 ⟨rfl, hz1⟩
          subst hz1
          refine ⟨_, rfl, hHeld, ?_⟩
          try simp only [Act.put, List.setIfInBounds_toArray, List.set_cons_zero, List.set_cons_succ]
          refine take_op (i := 8) (d := 20) (OP := Op.unOp UnOp.not 4 (Operand.tmp 19)) (T := 4) (v := ?vzz14) rfl rfl rfl rfl (by kernel_rfl) (by kernel_rfl) (by kernel_rfl) (fun _ _ _ h => h) (by rfl) ?hzz14 hHeld ?rzz14
          case hzz14 => (intro w' hSw; (try dsimp only at hSw); go_simp <;> with_reducible rfl)
          try simp only [Act.put, List.setIfInBounds_toArray, List.set_cons_zero, List.set_cons_succ]
          refine take_op (i := 9) (d := 21) (OP := Op.pick (Operand.tmp 16) (Operand.const (Value.bool true)) (Operand.tmp 20)) (T := 4) (v := ?vzz15) rfl rfl rfl rfl (by kernel_rfl) (by kernel_rfl) (by kernel_rfl) (fun _ _ _ h => h) (by rfl) ?hzz15 hHeld ?rzz15
          case hzz15 => (intro w' hSw; (try dsimp only at hSw); go_simp <;> with_reducible rfl)
          try simp only [Act.put, List.setIfInBounds_toArray, List.set_cons_zero, List.set_cons_succ]
          refine take_op (i := 10) (d := 22) (OP := Op.move (Operand.tmp 21)) (T := 4) (v := ?vzz16) rfl rfl rfl rfl (by kernel_rfl) (by kernel_rfl) (by kernel_rfl) (fun _ _ _ h => h) (by rfl) ?hzz16 hHeld ?rzz16
          case hzz16 => (intro w' hSw; (try dsimp only at hSw); go_simp <;> with_reducible rfl)
          try simp only [Act.put, List.setIfInBounds_toArray, List.set_cons_zero, List.set_cons_succ]
          refine pass_op (i := 11) (d := 23) rfl rfl (by kernel_rfl) (by kernel_rfl) (by kernel_rfl) (fun _ _ _ h => h) (by rfl) hHeld ?_
          try simp only [Act.put, List.setIfInBounds_toArray, List.set_cons_zero, List.set_cons_succ]
          refine pass_op (i := 12) (d := 24) rfl rfl (by kernel_rfl) (by kernel_rfl) (by kernel_rfl) (fun _ _ _ h => h) (by rfl) hHeld ?_
          try simp only [Act.put, List.setIfInBounds_toArray, List.set_cons_zero, List.set_cons_succ]
          refine pass_op (i := 13) (d := 25) rfl rfl (by kernel_rfl) (by kernel_rfl) (by kernel_rfl) (fun _ _ _ h => h) (by rfl) hHeld ?_
          try simp only [Act.put, List.setIfInBounds_toArray, List.set_cons_zero, List.set_cons_succ]
          refine pass_op (i := 14) (d := 26) rfl rfl (by kernel_rfl) (by kernel_rfl) (by kernel_rfl) (fun _ _ _ h => h) (by rfl) hHeld ?_
          try simp only [Act.put, List.setIfInBounds_toArray, List.set_cons_zero, List.set_cons_succ]
          refine pass_op (i := 15) (d := 27) rfl rfl (by kernel_rfl) (by kernel_rfl) (by kernel_rfl) (fun _ _ _ h => h) (by rfl) hHeld ?_
          try simp only [Act.put, List.setIfInBounds_toArray, List.set_cons_zero, List.set_cons_succ]
          refine pass_op (i := 16) (d := 28) rfl rfl (by kernel_rfl) (by kernel_rfl) (by kernel_rfl) (fun _ _ _ h => h) (by rfl) hHeld ?_
          try simp only [Act.put, List.setIfInBounds_toArray, List.set_cons_zero, List.set_cons_succ]
          refine pass_op (i := 17) (d := 29) rfl rfl (by kernel_rfl) (by kernel_rfl) (by kernel_rfl) (fun _ _ _ h => h) (by rfl) hHeld ?_
          try simp only [Act.put, List.setIfInBounds_toArray, List.set_cons_zero, List.set_cons_succ]
          refine take_op (i := 18) (d := 30) (OP := Op.pick (Operand.tmp 22) (Operand.const (Value.bool true)) (Operand.tmp 29)) (T := 4) (v := ?vzz17) rfl rfl rfl rfl (by kernel_rfl) (by kernel_rfl) (by kernel_rfl) (fun _ _ _ h => h) (by rfl) ?hzz17 hHeld ?rzz17
          case hzz17 => (intro w' hSw; (try dsimp only at hSw); go_simp <;> with_reducible rfl)
          try simp only [Act.put, List.setIfInBounds_toArray, List.set_cons_zero, List.set_cons_succ]
          refine wpAnyH_done (by kernel_rfl) ?_ _
          have HE := hide hHeld.2.2.2.2.2.2
          clear hHeld qd hS
          go_wp2
          go_ret
          refine ⟨?_, HB1.out.trans (HE.out.mono HB1.out.size)⟩
          have : R = false := by
            rw [H.out.2.1, Bool.eq_false_iff, Ne, mayB_iff]
            intro hm
            have := hm k _ (by rw [← H.out.1]; exact hlt) HX.out.1
            rw [HX.out.2.1] at this
            simp at this
          rw [this]; rfl
        · cases V3
          · skip
            have qd : w1.drew.cell? ⟨BX, 0, none⟩ = some (.int .i64 g) ∧ w1.drew.cell? ⟨BX, 1, none⟩ = some (.int .i64 r) ∧ w1.drew.cell? ⟨BX, 2, none⟩ = some (.string l0) ∧ w1.drew.cell? ⟨BX, 3, none⟩ = some (.int .i64 n0) ∧ w1.drew.cell? ⟨BX, 4, none⟩ = some (.int .i64 i0) ∧ w1.drew.cell? ⟨BX, 5, none⟩ = some (.string t0) ∧ Below w1.heap.size w1 w1.drew := keepB6 hS (drew_below w1)
            refine wp_region_held_drew (S := (fun w' => w'.cell? ⟨BX, 0, none⟩ = some (.int .i64 g) ∧ w'.cell? ⟨BX, 1, none⟩ = some (.int .i64 r) ∧ w'.cell? ⟨BX, 2, none⟩ = some (.string l0) ∧ w'.cell? ⟨BX, 3, none⟩ = some (.int .i64 n0) ∧ w'.cell? ⟨BX, 4, none⟩ = some (.int .i64 i0) ∧ w'.cell? ⟨BX, 5, none⟩ = some (.string t0) ∧ Below w1.heap.size w1 w')) (by kernel_rfl) qd (fun hHeld => ?_)
            try dsimp only at hHeld
            refine take_op (i := 0) (d := 12) (OP := Op.fieldAddr 58 (Operand.tmp 4) 0) (T := 0) (v := ?vzz18) rfl rfl rfl rfl (by kernel_rfl) (by kernel_rfl) (by kernel_rfl) (fun _ _ _ h => h) (by rfl) ?hzz18 hHeld ?rzz18
            case hzz18 => (intro w' hSw; (try dsimp only at hSw); go_simp <;> with_reducible rfl)
            try simp only [Act.put, List.setIfInBounds_toArray, List.set_cons_zero, List.set_cons_succ]
            refine take_op (i := 1) (d := 13) (OP := Op.load 46 (Operand.tmp 12)) (T := 46) (v := ?vzz19) rfl rfl rfl rfl (by kernel_rfl) (by kernel_rfl) (by kernel_rfl) (fun _ _ _ h => h) (by rfl) ?hzz19 hHeld ?rzz19
            case hzz19 => (intro w' hSw; (try dsimp only at hSw); go_simp <;> with_reducible rfl)
            try simp only [Act.put, List.setIfInBounds_toArray, List.set_cons_zero, List.set_cons_succ]
            refine call_op (i := 2) (d := 14) (OP := Op.call { callee := Callee.value (Operand.func 24), args := #[Operand.tmp 13], argTypes := #[46] }) (T := 4) (f := 24) (args := #[.agg #[.int .i64 g, .int .i64 r, .string l0, .int .i64 n0, .int .i64 i0]]) rfl rfl rfl rfl (by kernel_rfl) (by rfl) (by go_simp) ?_
            refine (k54 _).mono ?_
            rintro e z0 ⟨rfl, bz0⟩
            have qz := keepB6 hHeld bz0
            refine ⟨_, rfl, qz, ?_⟩
            replace hHeld := qz
            try simp only [Act.put, List.setIfInBounds_toArray, List.set_cons_zero, List.set_cons_succ]
            refine take_op (i := 3) (d := 15) (OP := Op.unOp UnOp.not 4 (Operand.tmp 14)) (T := 4) (v := ?vzz20) rfl rfl rfl rfl (by kernel_rfl) (by kernel_rfl) (by kernel_rfl) (fun _ _ _ h => h) (by rfl) ?hzz20 hHeld ?rzz20
            case hzz20 => (intro w' hSw; (try dsimp only at hSw); go_simp <;> with_reducible rfl)
            try simp only [Act.put, List.setIfInBounds_toArray, List.set_cons_zero, List.set_cons_succ]
            refine take_op (i := 4) (d := 16) (OP := Op.move (Operand.tmp 15)) (T := 4) (v := ?vzz21) rfl rfl rfl rfl (by kernel_rfl) (by kernel_rfl) (by kernel_rfl) (fun _ _ _ h => h) (by rfl) ?hzz21 hHeld ?rzz21
            case hzz21 => (intro w' hSw; (try dsimp only at hSw); go_simp <;> with_reducible rfl)
            try simp only [Act.put, List.setIfInBounds_toArray, List.set_cons_zero, List.set_cons_succ]
            refine take_op (i := 5) (d := 17) (OP := Op.fieldAddr 58 (Operand.tmp 4) 1) (T := 0) (v := ?vzz22) rfl rfl rfl rfl (by kernel_rfl) (by kernel_rfl) (by kernel_rfl) (fun _ _ _ h => h) (by rfl) ?hzz22 hHeld ?rzz22
            case hzz22 => (intro w' hSw; (try dsimp only at hSw); go_simp <;> with_reducible rfl)
            try simp only [Act.put, List.setIfInBounds_toArray, List.set_cons_zero, List.set_cons_succ]
            refine take_op (i := 6) (d := 18) (OP := Op.load 9 (Operand.tmp 17)) (T := 9) (v := ?vzz23) rfl rfl rfl rfl (by kernel_rfl) (by kernel_rfl) (by kernel_rfl) (fun _ _ _ h => h) (by rfl) ?hzz23 hHeld ?rzz23
            case hzz23 => (intro w' hSw; (try dsimp only at hSw); go_simp <;> with_reducible rfl)
            try simp only [Act.put, List.setIfInBounds_toArray, List.set_cons_zero, List.set_cons_succ]
            refine call_op (i := 7) (d := 19) (OP := Op.call { callee := Callee.value (Operand.func 40), args := #[Operand.tmp 18], argTypes := #[9] }) (T := 4) (f := 40) (args := #[.string t0]) rfl rfl rfl rfl (by kernel_rfl) (by rfl) (by go_simp) ?_
            refine (k47 _).mono ?_
            rintro e z1 ⟨rfl, hz1⟩
            subst hz1
            refine ⟨_, rfl, hHeld, ?_⟩
            try simp only [Act.put, List.setIfInBounds_toArray, List.set_cons_zero, List.set_cons_succ]
            refine take_op (i := 8) (d := 20) (OP := Op.unOp UnOp.not 4 (Operand.tmp 19)) (T := 4) (v := ?vzz24) rfl rfl rfl rfl (by kernel_rfl) (by kernel_rfl) (by kernel_rfl) (fun _ _ _ h => h) (by rfl) ?hzz24 hHeld ?rzz24
            case hzz24 => (intro w' hSw; (try dsimp only at hSw); go_simp <;> with_reducible rfl)
            try simp only [Act.put, List.setIfInBounds_toArray, List.set_cons_zero, List.set_cons_succ]
            refine take_op (i := 9) (d := 21) (OP := Op.pick (Operand.tmp 16) (Operand.const (Value.bool true)) (Operand.tmp 20)) (T := 4) (v := ?vzz25) rfl rfl rfl rfl (by kernel_rfl) (by kernel_rfl) (by kernel_rfl) (fun _ _ _ h => h) (by rfl) ?hzz25 hHeld ?rzz25
            case hzz25 => (intro w' hSw; (try dsimp only at hSw); go_simp <;> with_reducible rfl)
            try simp only [Act.put, List.setIfInBounds_toArray, List.set_cons_zero, List.set_cons_succ]
            refine take_op (i := 10) (d := 22) (OP := Op.move (Operand.tmp 21)) (T := 4) (v := ?vzz26) rfl rfl rfl rfl (by kernel_rfl) (by kernel_rfl) (by kernel_rfl) (fun _ _ _ h => h) (by rfl) ?hzz26 hHeld ?rzz26
            case hzz26 => (intro w' hSw; (try dsimp only at hSw); go_simp <;> with_reducible rfl)
            try simp only [Act.put, List.setIfInBounds_toArray, List.set_cons_zero, List.set_cons_succ]
            refine take_op (i := 11) (d := 23) (OP := Op.fieldAddr 58 (Operand.tmp 4) 0) (T := 0) (v := ?vzz27) rfl rfl rfl rfl (by kernel_rfl) (by kernel_rfl) (by kernel_rfl) (fun _ _ _ h => h) (by rfl) ?hzz27 hHeld ?rzz27
            case hzz27 => (intro w' hSw; (try dsimp only at hSw); go_simp <;> with_reducible rfl)
            try simp only [Act.put, List.setIfInBounds_toArray, List.set_cons_zero, List.set_cons_succ]
            refine take_op (i := 12) (d := 24) (OP := Op.load 46 (Operand.tmp 23)) (T := 46) (v := ?vzz28) rfl rfl rfl rfl (by kernel_rfl) (by kernel_rfl) (by kernel_rfl) (fun _ _ _ h => h) (by rfl) ?hzz28 hHeld ?rzz28
            case hzz28 => (intro w' hSw; (try dsimp only at hSw); go_simp <;> with_reducible rfl)
            try simp only [Act.put, List.setIfInBounds_toArray, List.set_cons_zero, List.set_cons_succ]
            refine take_op (i := 13) (d := 25) (OP := Op.move (Operand.tmp 0)) (T := 28) (v := ?vzz29) rfl rfl rfl rfl (by kernel_rfl) (by kernel_rfl) (by kernel_rfl) (fun _ _ _ h => h) (by rfl) ?hzz29 hHeld ?rzz29
            case hzz29 => (intro w' hSw; (try dsimp only at hSw); go_simp <;> with_reducible rfl)
            try simp only [Act.put, List.setIfInBounds_toArray, List.set_cons_zero, List.set_cons_succ]
            refine take_op (i := 14) (d := 26) (OP := Op.move (Operand.tmp 3)) (T := 3) (v := ?vzz30) rfl rfl rfl rfl (by kernel_rfl) (by kernel_rfl) (by kernel_rfl) (fun _ _ _ h => h) (by rfl) ?hzz30 hHeld ?rzz30
            case hzz30 => (intro w' hSw; (try dsimp only at hSw); go_simp <;> with_reducible rfl)
            try simp only [Act.put, List.setIfInBounds_toArray, List.set_cons_zero, List.set_cons_succ]
            refine take_op (i := 15) (d := 27) (OP := Op.slice 28 (Operand.tmp 25) none (some (Operand.tmp 26)) none) (T := 28) (v := .slice (some ⟨b, off, none⟩) k c) rfl rfl rfl rfl (by kernel_rfl) (by kernel_rfl) (by kernel_rfl) (fun _ _ _ h => h) (by rfl) ?hzz31 hHeld ?rzz31
            case hzz31 => (intro w' hSw; exact exec_slE rfl rfl (hsl w'))
            try simp only [Act.put, List.setIfInBounds_toArray, List.set_cons_zero, List.set_cons_succ]
            refine call_op (i := 16) (d := 28) (OP := Op.call { callee := Callee.value (Operand.func 25), args := #[Operand.tmp 24, Operand.tmp 27], argTypes := #[46, 28] }) (T := 4) (f := 25) (args := #[.agg #[.int .i64 g, .int .i64 r, .string l0, .int .i64 n0, .int .i64 i0], .slice (some ⟨b, off, none⟩) k c]) rfl rfl rfl rfl (by kernel_rfl) (by rfl) (by go_simp) ?_
            refine (k55 _ hHeld.2.2.2.2.2.2).mono ?_
            rintro e z2 ⟨rfl, bz2⟩
            have qz2 := keepB6 hHeld bz2
            refine ⟨_, rfl, qz2, ?_⟩
            replace hHeld := qz2
            try simp only [Act.put, List.setIfInBounds_toArray, List.set_cons_zero, List.set_cons_succ]
            refine take_op (i := 17) (d := 29) (OP := Op.unOp UnOp.not 4 (Operand.tmp 28)) (T := 4) (v := ?vzz32) rfl rfl rfl rfl (by kernel_rfl) (by kernel_rfl) (by kernel_rfl) (fun _ _ _ h => h) (by rfl) ?hzz32 hHeld ?rzz32
            case hzz32 => (intro w' hSw; (try dsimp only at hSw); go_simp <;> with_reducible rfl)
            try simp only [Act.put, List.setIfInBounds_toArray, List.set_cons_zero, List.set_cons_succ]
            refine take_op (i := 18) (d := 30) (OP := Op.pick (Operand.tmp 22) (Operand.const (Value.bool true)) (Operand.tmp 29)) (T := 4) (v := ?vzz33) rfl rfl rfl rfl (by kernel_rfl) (by kernel_rfl) (by kernel_rfl) (fun _ _ _ h => h) (by rfl) ?hzz33 hHeld ?rzz33
            case hzz33 => (intro w' hSw; (try dsimp only at hSw); go_simp <;> with_reducible rfl)
            try simp only [Act.put, List.setIfInBounds_toArray, List.set_cons_zero, List.set_cons_succ]
            refine wpAnyH_done (by kernel_rfl) ?_ _
            have HE := hide hHeld.2.2.2.2.2.2
            clear hHeld qd hS
            go_wp2
            go_ret
            refine ⟨?_, HB1.out.trans (HE.out.mono HB1.out.size)⟩
            have : R = false := by
              rw [H.out.2.1, Bool.eq_false_iff, Ne, mayB_iff]
              intro hm
              have := hm k _ (by rw [← H.out.1]; exact hlt) HX.out.1
              rw [HX.out.2.1] at this
              simp at this
            rw [this]; rfl
          · skip
            have qd : w1.drew.cell? ⟨BX, 0, none⟩ = some (.int .i64 g) ∧ w1.drew.cell? ⟨BX, 1, none⟩ = some (.int .i64 r) ∧ w1.drew.cell? ⟨BX, 2, none⟩ = some (.string l0) ∧ w1.drew.cell? ⟨BX, 3, none⟩ = some (.int .i64 n0) ∧ w1.drew.cell? ⟨BX, 4, none⟩ = some (.int .i64 i0) ∧ w1.drew.cell? ⟨BX, 5, none⟩ = some (.string t0) ∧ Below w1.heap.size w1 w1.drew := keepB6 hS (drew_below w1)
            refine wp_region_held_drew (S := (fun w' => w'.cell? ⟨BX, 0, none⟩ = some (.int .i64 g) ∧ w'.cell? ⟨BX, 1, none⟩ = some (.int .i64 r) ∧ w'.cell? ⟨BX, 2, none⟩ = some (.string l0) ∧ w'.cell? ⟨BX, 3, none⟩ = some (.int .i64 n0) ∧ w'.cell? ⟨BX, 4, none⟩ = some (.int .i64 i0) ∧ w'.cell? ⟨BX, 5, none⟩ = some (.string t0) ∧ Below w1.heap.size w1 w')) (by kernel_rfl) qd (fun hHeld => ?_)
            try dsimp only at hHeld
            refine take_op (i := 0) (d := 12) (OP := Op.fieldAddr 58 (Operand.tmp 4) 0) (T := 0) (v := ?vzz34) rfl rfl rfl rfl (by kernel_rfl) (by kernel_rfl) (by kernel_rfl) (fun _ _ _ h => h) (by rfl) ?hzz34 hHeld ?rzz34
            case hzz34 => (intro w' hSw; (try dsimp only at hSw); go_simp <;> with_reducible rfl)
            try simp only [Act.put, List.setIfInBounds_toArray, List.set_cons_zero, List.set_cons_succ]
            refine take_op (i := 1) (d := 13) (OP := Op.load 46 (Operand.tmp 12)) (T := 46) (v := ?vzz35) rfl rfl rfl rfl (by kernel_rfl) (by kernel_rfl) (by kernel_rfl) (fun _ _ _ h => h) (by rfl) ?hzz35 hHeld ?rzz35
            case hzz35 => (intro w' hSw; (try dsimp only at hSw); go_simp <;> with_reducible rfl)
            try simp only [Act.put, List.setIfInBounds_toArray, List.set_cons_zero, List.set_cons_succ]
            refine call_op (i := 2) (d := 14) (OP := Op.call { callee := Callee.value (Operand.func 24), args := #[Operand.tmp 13], argTypes := #[46] }) (T := 4) (f := 24) (args := #[.agg #[.int .i64 g, .int .i64 r, .string l0, .int .i64 n0, .int .i64 i0]]) rfl rfl rfl rfl (by kernel_rfl) (by rfl) (by go_simp) ?_
            refine (k54 _).mono ?_
            rintro e z0 ⟨rfl, bz0⟩
            have qz := keepB6 hHeld bz0
            refine ⟨_, rfl, qz, ?_⟩
            replace hHeld := qz
            try simp only [Act.put, List.setIfInBounds_toArray, List.set_cons_zero, List.set_cons_succ]
            refine take_op (i := 3) (d := 15) (OP := Op.unOp UnOp.not 4 (Operand.tmp 14)) (T := 4) (v := ?vzz36) rfl rfl rfl rfl (by kernel_rfl) (by kernel_rfl) (by kernel_rfl) (fun _ _ _ h => h) (by rfl) ?hzz36 hHeld ?rzz36
            case hzz36 => (intro w' hSw; (try dsimp only at hSw); go_simp <;> with_reducible rfl)
            try simp only [Act.put, List.setIfInBounds_toArray, List.set_cons_zero, List.set_cons_succ]
            refine take_op (i := 4) (d := 16) (OP := Op.move (Operand.tmp 15)) (T := 4) (v := ?vzz37) rfl rfl rfl rfl (by kernel_rfl) (by kernel_rfl) (by kernel_rfl) (fun _ _ _ h => h) (by rfl) ?hzz37 hHeld ?rzz37
            case hzz37 => (intro w' hSw; (try dsimp only at hSw); go_simp <;> with_reducible rfl)
            try simp only [Act.put, List.setIfInBounds_toArray, List.set_cons_zero, List.set_cons_succ]
            refine take_op (i := 5) (d := 17) (OP := Op.fieldAddr 58 (Operand.tmp 4) 1) (T := 0) (v := ?vzz38) rfl rfl rfl rfl (by kernel_rfl) (by kernel_rfl) (by kernel_rfl) (fun _ _ _ h => h) (by rfl) ?hzz38 hHeld ?rzz38
            case hzz38 => (intro w' hSw; (try dsimp only at hSw); go_simp <;> with_reducible rfl)
            try simp only [Act.put, List.setIfInBounds_toArray, List.set_cons_zero, List.set_cons_succ]
            refine take_op (i := 6) (d := 18) (OP := Op.load 9 (Operand.tmp 17)) (T := 9) (v := ?vzz39) rfl rfl rfl rfl (by kernel_rfl) (by kernel_rfl) (by kernel_rfl) (fun _ _ _ h => h) (by rfl) ?hzz39 hHeld ?rzz39
            case hzz39 => (intro w' hSw; (try dsimp only at hSw); go_simp <;> with_reducible rfl)
            try simp only [Act.put, List.setIfInBounds_toArray, List.set_cons_zero, List.set_cons_succ]
            refine call_op (i := 7) (d := 19) (OP := Op.call { callee := Callee.value (Operand.func 40), args := #[Operand.tmp 18], argTypes := #[9] }) (T := 4) (f := 40) (args := #[.string t0]) rfl rfl rfl rfl (by kernel_rfl) (by rfl) (by go_simp) ?_
            refine (k47 _).mono ?_
            rintro e z1 ⟨rfl, hz1⟩
            subst hz1
            refine ⟨_, rfl, hHeld, ?_⟩
            try simp only [Act.put, List.setIfInBounds_toArray, List.set_cons_zero, List.set_cons_succ]
            refine take_op (i := 8) (d := 20) (OP := Op.unOp UnOp.not 4 (Operand.tmp 19)) (T := 4) (v := ?vzz40) rfl rfl rfl rfl (by kernel_rfl) (by kernel_rfl) (by kernel_rfl) (fun _ _ _ h => h) (by rfl) ?hzz40 hHeld ?rzz40
            case hzz40 => (intro w' hSw; (try dsimp only at hSw); go_simp <;> with_reducible rfl)
            try simp only [Act.put, List.setIfInBounds_toArray, List.set_cons_zero, List.set_cons_succ]
            refine take_op (i := 9) (d := 21) (OP := Op.pick (Operand.tmp 16) (Operand.const (Value.bool true)) (Operand.tmp 20)) (T := 4) (v := ?vzz41) rfl rfl rfl rfl (by kernel_rfl) (by kernel_rfl) (by kernel_rfl) (fun _ _ _ h => h) (by rfl) ?hzz41 hHeld ?rzz41
            case hzz41 => (intro w' hSw; (try dsimp only at hSw); go_simp <;> with_reducible rfl)
            try simp only [Act.put, List.setIfInBounds_toArray, List.set_cons_zero, List.set_cons_succ]
            refine take_op (i := 10) (d := 22) (OP := Op.move (Operand.tmp 21)) (T := 4) (v := ?vzz42) rfl rfl rfl rfl (by kernel_rfl) (by kernel_rfl) (by kernel_rfl) (fun _ _ _ h => h) (by rfl) ?hzz42 hHeld ?rzz42
            case hzz42 => (intro w' hSw; (try dsimp only at hSw); go_simp <;> with_reducible rfl)
            try simp only [Act.put, List.setIfInBounds_toArray, List.set_cons_zero, List.set_cons_succ]
            refine take_op (i := 11) (d := 23) (OP := Op.fieldAddr 58 (Operand.tmp 4) 0) (T := 0) (v := ?vzz43) rfl rfl rfl rfl (by kernel_rfl) (by kernel_rfl) (by kernel_rfl) (fun _ _ _ h => h) (by rfl) ?hzz43 hHeld ?rzz43
            case hzz43 => (intro w' hSw; (try dsimp only at hSw); go_simp <;> with_reducible rfl)
            try simp only [Act.put, List.setIfInBounds_toArray, List.set_cons_zero, List.set_cons_succ]
            refine take_op (i := 12) (d := 24) (OP := Op.load 46 (Operand.tmp 23)) (T := 46) (v := ?vzz44) rfl rfl rfl rfl (by kernel_rfl) (by kernel_rfl) (by kernel_rfl) (fun _ _ _ h => h) (by rfl) ?hzz44 hHeld ?rzz44
            case hzz44 => (intro w' hSw; (try dsimp only at hSw); go_simp <;> with_reducible rfl)
            try simp only [Act.put, List.setIfInBounds_toArray, List.set_cons_zero, List.set_cons_succ]
            refine take_op (i := 13) (d := 25) (OP := Op.move (Operand.tmp 0)) (T := 28) (v := ?vzz45) rfl rfl rfl rfl (by kernel_rfl) (by kernel_rfl) (by kernel_rfl) (fun _ _ _ h => h) (by rfl) ?hzz45 hHeld ?rzz45
            case hzz45 => (intro w' hSw; (try dsimp only at hSw); go_simp <;> with_reducible rfl)
            try simp only [Act.put, List.setIfInBounds_toArray, List.set_cons_zero, List.set_cons_succ]
            refine take_op (i := 14) (d := 26) (OP := Op.move (Operand.tmp 3)) (T := 3) (v := ?vzz46) rfl rfl rfl rfl (by kernel_rfl) (by kernel_rfl) (by kernel_rfl) (fun _ _ _ h => h) (by rfl) ?hzz46 hHeld ?rzz46
            case hzz46 => (intro w' hSw; (try dsimp only at hSw); go_simp <;> with_reducible rfl)
            try simp only [Act.put, List.setIfInBounds_toArray, List.set_cons_zero, List.set_cons_succ]
            refine take_op (i := 15) (d := 27) (OP := Op.slice 28 (Operand.tmp 25) none (some (Operand.tmp 26)) none) (T := 28) (v := .slice (some ⟨b, off, none⟩) k c) rfl rfl rfl rfl (by kernel_rfl) (by kernel_rfl) (by kernel_rfl) (fun _ _ _ h => h) (by rfl) ?hzz47 hHeld ?rzz47
            case hzz47 => (intro w' hSw; exact exec_slE rfl rfl (hsl w'))
            try simp only [Act.put, List.setIfInBounds_toArray, List.set_cons_zero, List.set_cons_succ]
            refine call_op (i := 16) (d := 28) (OP := Op.call { callee := Callee.value (Operand.func 25), args := #[Operand.tmp 24, Operand.tmp 27], argTypes := #[46, 28] }) (T := 4) (f := 25) (args := #[.agg #[.int .i64 g, .int .i64 r, .string l0, .int .i64 n0, .int .i64 i0], .slice (some ⟨b, off, none⟩) k c]) rfl rfl rfl rfl (by kernel_rfl) (by rfl) (by go_simp) ?_
            refine (k55 _ hHeld.2.2.2.2.2.2).mono ?_
            rintro e z2 ⟨rfl, bz2⟩
            have qz2 := keepB6 hHeld bz2
            refine ⟨_, rfl, qz2, ?_⟩
            replace hHeld := qz2
            try simp only [Act.put, List.setIfInBounds_toArray, List.set_cons_zero, List.set_cons_succ]
            refine take_op (i := 17) (d := 29) (OP := Op.unOp UnOp.not 4 (Operand.tmp 28)) (T := 4) (v := ?vzz48) rfl rfl rfl rfl (by kernel_rfl) (by kernel_rfl) (by kernel_rfl) (fun _ _ _ h => h) (by rfl) ?hzz48 hHeld ?rzz48
            case hzz48 => (intro w' hSw; (try dsimp only at hSw); go_simp <;> with_reducible rfl)
            try simp only [Act.put, List.setIfInBounds_toArray, List.set_cons_zero, List.set_cons_succ]
            refine take_op (i := 18) (d := 30) (OP := Op.pick (Operand.tmp 22) (Operand.const (Value.bool true)) (Operand.tmp 29)) (T := 4) (v := ?vzz49) rfl rfl rfl rfl (by kernel_rfl) (by kernel_rfl) (by kernel_rfl) (fun _ _ _ h => h) (by rfl) ?hzz49 hHeld ?rzz49
            case hzz49 => (intro w' hSw; (try dsimp only at hSw); go_simp <;> with_reducible rfl)
            try simp only [Act.put, List.setIfInBounds_toArray, List.set_cons_zero, List.set_cons_succ]
            refine wpAnyH_done (by kernel_rfl) ?_ _
            have HE := hide hHeld.2.2.2.2.2.2
            clear hHeld qd hS
            go_wp2
            go_roundw
            case rel =>
              refine ⟨k + 1, by omega, by go_num, hide ⟨fun j y hj hy => ?_, HB1.out.trans (HE.out.mono HB1.out.size)⟩⟩
              by_cases hjk : j = k
              · subst hjk
                rw [HX.out.1] at hy
                cases hy
                rw [HX.out.2.1]; rfl
              · exact hP.out.1 j y (by omega) hy
            case measure => simp [intOf]; omega
    · obtain rfl : k = N := by omega
      have d1 : decide (k < k) = false := by simp
      go_wp2
      go_ret
      refine ⟨?_, hP.out.2⟩
      have : R = true := by rw [H.out.2.1, mayB_iff, ← H.out.1]; exact hP.out.1
      rw [this]; rfl
end Go.Proofs.YtkdgageljgfgoaaDoor
