/-
  REFKEY: the document's own key of a stamp.
-/
import Derived.Test.YtkkpdgfllnbigaaGreatDoorMg8
import Derived.Deep.DeepCutAuto
import Derived.Deep.CutBlock
namespace Go.Proofs.YtkkpdgfllnbigaaGreatDoor
open Go.RowKit Go.Shelf
set_option linter.unusedSimpArgs false

theorem app_own {w : World} {B : Nat} {v : Value} {p l : List Int} {ao : Option Addr} {c : Nat} (hown : Own 5 w B v p) (hc : ao = none → c = 0) (hrd : Rd w ao l) (hbytes : p.length + l.length ≤ 140737488355328) (hB : B ≤ w.heap.size) :
    ∃ a' c' w', (Builtin.append_ #[64, 64] 64 #[v, .slice ao l.length c]).run Tryz.prog w = .ok (.slice a' (p ++ l).length c') w' ∧ Own 5 w' B (.slice a' (p ++ l).length c') (p ++ l) ∧ (a' = none → c' = 0) ∧ Below B w w' := by
  obtain ⟨i0, hi, hz0, hz1, hz2⟩ := info_parts Tryz.info5
  cases ao with
  | none =>
    have hl := hrd.1 rfl
    subst hl
    have hc0 := hc rfl
    subst hc0
    obtain ⟨a', c', rfl, hn⟩ := hown.form
    rw [List.append_nil]
    exact ⟨a', c', w, run_append_owned_none (P := Tryz.prog) (w := w) B 64 64 5 i0 1 Tryz.underlying64 hi _ _ _ hown, hown, hn, Below.refl _ _⟩
  | some ad =>
    obtain ⟨v', w', hr, h2, h3, _⟩ := run_append_own (P := Tryz.prog) w B 64 64 5 i0 (.int .u8 0) 1 1 Tryz.underlying64 hi hz0 hz1 hz2 rfl (by decide) v p.length (u8s p) hown ad l.length c (u8s l) (by simp [u8s]) (fun j u hj => hrd.2 ad rfl j u hj) u8s_one (by unfold maxLen; omega) (by omega) hB
    have hO : Own 5 w' B v' (p ++ l) := by unfold Own; rw [u8s_append, List.length_append]; exact h2
    obtain ⟨a', c', rfl, hn⟩ := hO.form
    exact ⟨a', c', w', hr, hO, hn, (Below.refl B w).grown h3 hB (fun k hk => (World.ownsRow.lt hown k hk).1)⟩

theorem app_str {W : World} {B : Nat} {v : Value} {p : List Int} (s : ByteArray) (h : Own 5 W B v p) (hlen : p.length + s.size ≤ 140737488355328) (hB : B ≤ W.heap.size) :
    ∃ a' c' w', (Builtin.append_ #[64, 9] 64 #[v, .string s]).run Tryz.prog W = .ok (.slice a' (p ++ ints s.data.toList).length c') w' ∧ Own 5 w' B (.slice a' (p ++ ints s.data.toList).length c') (p ++ ints s.data.toList) ∧ (a' = none → c' = 0) ∧ Below B W w' := by
  obtain ⟨i0, hi, hz0, hz1, hz2⟩ := info_parts Tryz.info5
  obtain ⟨v', w', hr, h2, h3, h4⟩ := Lib.run_append_own_string (P := Tryz.prog) W B 64 9 64 5 i0 Tryz.underlying64 Tryz.underlying9 hi hz0 hz1 hz2 v p.length (u8s p) h s (by unfold maxLen; omega) hlen hB
  have e1 : u8s (p ++ ints s.data.toList) = u8s p ++ Lib.strCells s := by simp [u8s, ints, Lib.strCells]
  have e2 : (p ++ ints s.data.toList).length = p.length + s.size := by rw [List.length_append, ints_size]
  have hO : Own 5 w' B v' (p ++ ints s.data.toList) := by unfold Own; rw [e1, e2]; exact h2
  obtain ⟨a', c', rfl, hn⟩ := hO.form
  exact ⟨a', c', w', hr, hO, hn, (Below.refl B W).grown h3 hB (fun k hk => (World.ownsRow.lt h k hk).1)⟩
theorem wpList_app2 {P : Program} {w w' : World} {ops : Array Oper} {rest : List Oper} {o : Oper} {a : Act} {Q : Exit → Act → World → Prop} (hgd : o.guard = none) (s x : Operand) (t u T : TypeId)
    (ho : o.op = .call { callee := .builtin .append, args := #[s, x], argTypes := #[t, u] }) (hT : o.type = T) {v y v' : Value} (hs : a.eval s = v) (hx : a.eval x = y) (hr : (Builtin.append_ #[t, u] T #[v, y]).run P w = .ok v' w')
    (h : wpList P ops Q rest (a.put o.dst v') w') : wpList P ops Q (o :: rest) a w :=
  wpList_plain hgd fun K hK => by
    unfold Oper.wp
    rw [exec_same a.eval o ho hT]
    simp only [execOp, resolve, invoke, builtin, Sem.run_bind, Sem.run_pure, Result.andThen_ok, List.map_toArray, List.map_cons, List.map_nil, hs, hx, hr]
    exact hK _ _ h
theorem rd_one (W : World) (b : Int) : Rd (W.alloc (.cells #[.int .u8 b] 5)) (some ⟨W.heap.size, 0, none⟩) [b] := by
  refine ⟨by simp, ?_⟩
  intro a' ha' j u hj
  cases ha'
  match j, hj with
  | 0, hj => simp [u8s] at hj; subst hj; simp [Addr.add]
theorem str_app (a b : List Int) : strOfNums (a ++ b) = strOfNums a ++ strOfNums b := by
  apply ByteArray.ext
  apply Array.toList_inj.1
  simp [strOfNums]
set_option maxHeartbeats 4000000 in
set_option maxRecDepth 100000 in
theorem refKey_any (g r : Int) (l : ByteArray) (n x : Int) (w : World) (h0 : 0 ≤ r) (h1 : r ≤ 255) (hl : l.size ≤ 1000000) (n0 : 0 ≤ n) (_n1 : n ≤ 9223372036854775807) (g0 : 0 ≤ g) (_g1 : g ≤ 9223372036854775807) (x0 : 0 ≤ x) (x1 : x ≤ 255) : Calls Tryz.prog 28 #[sv g r l n x] w fun e w' => e = .returned (.string (keyS g r l n x)) ∧ Below w.heap.size w w' := by
  have hb := below_new w (.cells #[.int .i64 g, .int .i64 r, .string l, .int .i64 n, .int .i64 x] 27)
  have hbk := heap_alloc_new w (.cells #[.int .i64 g, .int .i64 r, .string l, .int .i64 n, .int .i64 x] 27)
  obtain ⟨p0, p1, p2, p3, p4⟩ := five_new w (.int .i64 g) (.int .i64 r) (.string l) (.int .i64 n) (.int .i64 x) 27
  have wr : IntKind.u8.wrap r = r := by rw [IntKind.wrap_u8]; omega
  have wx : IntKind.u8.wrap x = x := by rw [IntKind.wrap_u8]; omega
  have hg : ∀ W, Calls Tryz.prog 45 #[.int .i64 g] W fun e w' => Made 5 W w' e (low g.toNat 8) := fun W => by have := eight_any g.toNat W; rw [Int.toNat_of_nonneg g0] at this; exact this
  have hn : ∀ W, Calls Tryz.prog 45 #[.int .i64 n] W fun e w' => Made 5 W w' e (low n.toNat 8) := fun W => by have := eight_any n.toNat W; rw [Int.toNat_of_nonneg n0] at this; exact this
  have l1 := low_length g.toNat 8
  have l2 := low_length n.toNat 8
  have l3 := ints_size l
  have hkey : strOfNums (((((low g.toNat 8 ++ [r]) ++ ints l.data.toList) ++ [0]) ++ low n.toNat 8) ++ [x]) = keyS g r l n x := by
    unfold keyS
    rw [str_app, str_app, str_app, str_app, str_app, str_ints]
    rfl
  generalize keyS g r l n x = KS at hkey ⊢
  generalize low g.toNat 8 = LG at hg l1 hkey
  generalize low n.toNat 8 = LN at hn l2 hkey
  obtain ⟨LL, eL⟩ : ∃ LL, ints l.data.toList = LL := ⟨_, rfl⟩
  rw [eL] at l3 hkey
  have B1 : ∀ {W : World}, Below (w.heap.size + 1) W W → True := fun _ => trivial
  clear B1
  obtain ⟨P1, e1⟩ : ∃ P1, P1 = LG ++ [r] := ⟨_, rfl⟩
  obtain ⟨P2, e2⟩ : ∃ P2, P2 = P1 ++ LL := ⟨_, rfl⟩
  obtain ⟨P3, e3⟩ : ∃ P3, P3 = P2 ++ [0] := ⟨_, rfl⟩
  obtain ⟨P4, e4⟩ : ∃ P4, P4 = P3 ++ LN := ⟨_, rfl⟩
  obtain ⟨P5, e5⟩ : ∃ P5, P5 = P4 ++ [x] := ⟨_, rfl⟩
  have hkey' : strOfNums P5 = KS := by rw [e5, e4, e3, e2, e1]; exact hkey
  have s1 : P1.length = 9 := by rw [e1, List.length_append]; simp [l1]
  have s2 : P2.length = 9 + l.size := by rw [e2, List.length_append]; omega
  have s3 : P3.length = 10 + l.size := by rw [e3, List.length_append]; simp; omega
  have s4 : P4.length = 18 + l.size := by rw [e4, List.length_append]; omega
  have hap1 : ∀ (W : World) (v : Value) (ad : Addr), Own 5 W (w.heap.size + 1) v LG → Rd W (some ad) [r] → w.heap.size + 1 ≤ W.heap.size → ∃ a' c' w', (Builtin.append_ #[64, 64] 64 #[v, .slice (some ad) 1 1]).run Tryz.prog W = .ok (.slice a' P1.length c') w' ∧ Own 5 w' (w.heap.size + 1) (.slice a' P1.length c') P1 ∧ (a' = none → c' = 0) ∧ Below (w.heap.size + 1) W w' := fun W v ad q1 q2 hs => by
    have hh := app_own (p := LG) (l := [r]) (ao := some ad) (c := 1) q1 (fun h => by cases h) q2 (by show _ + 1 ≤ _; omega) hs
    rw [show ([r] : List Int).length = 1 from rfl] at hh
    rw [e1]; exact hh
  have hap2 : ∀ (W : World) (v : Value), Own 5 W (w.heap.size + 1) v P1 → w.heap.size + 1 ≤ W.heap.size → ∃ a' c' w', (Builtin.append_ #[64, 9] 64 #[v, .string l]).run Tryz.prog W = .ok (.slice a' P2.length c') w' ∧ Own 5 w' (w.heap.size + 1) (.slice a' P2.length c') P2 ∧ (a' = none → c' = 0) ∧ Below (w.heap.size + 1) W w' := fun W v q1 hs => by
    have hh := app_str (p := P1) l q1 (by omega) hs
    rw [eL] at hh
    rw [e2]; exact hh
  have hap3 : ∀ (W : World) (v : Value) (ad : Addr), Own 5 W (w.heap.size + 1) v P2 → Rd W (some ad) [0] → w.heap.size + 1 ≤ W.heap.size → ∃ a' c' w', (Builtin.append_ #[64, 64] 64 #[v, .slice (some ad) 1 1]).run Tryz.prog W = .ok (.slice a' P3.length c') w' ∧ Own 5 w' (w.heap.size + 1) (.slice a' P3.length c') P3 ∧ (a' = none → c' = 0) ∧ Below (w.heap.size + 1) W w' := fun W v ad q1 q2 hs => by
    have hh := app_own (p := P2) (l := [0]) (ao := some ad) (c := 1) q1 (fun h => by cases h) q2 (by show _ + 1 ≤ _; omega) hs
    rw [show ([0] : List Int).length = 1 from rfl] at hh
    rw [e3]; exact hh
  have hap4 : ∀ (W : World) (v : Value) (ad : Option Addr) (c : Nat), Own 5 W (w.heap.size + 1) v P3 → Rd W ad LN → (ad = none → c = 0) → w.heap.size + 1 ≤ W.heap.size → ∃ a' c' w', (Builtin.append_ #[64, 64] 64 #[v, .slice ad LN.length c]).run Tryz.prog W = .ok (.slice a' P4.length c') w' ∧ Own 5 w' (w.heap.size + 1) (.slice a' P4.length c') P4 ∧ (a' = none → c' = 0) ∧ Below (w.heap.size + 1) W w' := fun W v ad c q1 q2 q3 hs => by
    have hh := app_own (p := P3) (l := LN) (ao := ad) (c := c) q1 q3 q2 (by omega) hs
    rw [e4]; exact hh
  have hap5 : ∀ (W : World) (v : Value) (ad : Addr), Own 5 W (w.heap.size + 1) v P4 → Rd W (some ad) [x] → w.heap.size + 1 ≤ W.heap.size → ∃ a' c' w', (Builtin.append_ #[64, 64] 64 #[v, .slice (some ad) 1 1]).run Tryz.prog W = .ok (.slice a' P5.length c') w' ∧ Own 5 w' (w.heap.size + 1) (.slice a' P5.length c') P5 ∧ (a' = none → c' = 0) ∧ Below (w.heap.size + 1) W w' := fun W v ad q1 q2 hs => by
    have hh := app_own (p := P4) (l := [x]) (ao := some ad) (c := 1) q1 (fun h => by cases h) q2 (by show _ + 1 ≤ _; omega) hs
    rw [show ([x] : List Int).length = 1 from rfl] at hh
    rw [e5]; exact hh
  have hkc : ∀ W, Below (w.heap.size + 1) (w.alloc (.cells #[.int .i64 g, .int .i64 r, .string l, .int .i64 n, .int .i64 x] 27)) W → W.heap[w.heap.size]? = some (.cells #[.int .i64 g, .int .i64 r, .string l, .int .i64 n, .int .i64 x] 27) := fun W h => (h.block _ (by omega)).trans hbk
  clear e1 e2 e3 e4 e5 hkey s1 s2 s3 s4 l1 l2 l3 eL
  go_enter Tryz.func28, Tryz.ntmps28
  go_wp2
  have hs0 : w.heap.size + 1 ≤ (w.alloc (.cells #[.int .i64 g, .int .i64 r, .string l, .int .i64 n, .int .i64 x] 27)).drew.heap.size := by show _ ≤ (w.alloc _).heap.size; simp
  generalize (w.alloc (.cells #[.int .i64 g, .int .i64 r, .string l, .int .i64 n, .int .i64 x] 27)) = W0 at hb hbk hkc p0 p1 p2 p3 p4 hs0 ⊢
  have hS1 : W0.drew.cell? ⟨w.heap.size, 0, none⟩ = some (.int .i64 g) ∧ W0.drew.cell? ⟨w.heap.size, 1, none⟩ = some (.int .i64 r) ∧ W0.drew.cell? ⟨w.heap.size, 2, none⟩ = some (.string l) ∧ W0.drew.cell? ⟨w.heap.size, 3, none⟩ = some (.int .i64 n) ∧ W0.drew.cell? ⟨w.heap.size, 4, none⟩ = some (.int .i64 x) := ⟨p0, p1, p2, p3, p4⟩
  have hBW : Below w.heap.size w W0.drew := hb.drew
  have hBW0 : Below w.heap.size w W0 := hb
  have hB0 : Below (w.heap.size + 1) W0 W0.drew := (Below.refl _ W0).drew
  clear hb p0 p1 p2 p3 p4 hbk
  have HK := hide hkc
  clear hkc
  go_cut [3] (fun v3 wc => ∃ a9 c9, v3 = .slice a9 P1.length c9 ∧ Hid (Own 5 wc (w.heap.size + 1) (.slice a9 P1.length c9) P1 ∧ Below (w.heap.size + 1) W0 wc))
  case first =>
    as_aux_lemma =>
      refine wp_region_held_drew (S := (fun w' => w'.cell? ⟨w.heap.size, 0, none⟩ = some (.int .i64 g) ∧ w'.cell? ⟨w.heap.size, 1, none⟩ = some (.int .i64 r) ∧ w'.cell? ⟨w.heap.size, 2, none⟩ = some (.string l) ∧ w'.cell? ⟨w.heap.size, 3, none⟩ = some (.int .i64 n) ∧ w'.cell? ⟨w.heap.size, 4, none⟩ = some (.int .i64 x))) (by kernel_rfl) (by exact hS1) (fun hHeld => ?_)
      try dsimp only at hHeld
      refine take_op (i := 0) (d := 4) (OP := Op.fieldAddr 27 (Operand.tmp 1) 0) (T := 0) (v := ?vy1x) rfl rfl rfl rfl (by kernel_rfl) (by kernel_rfl) (by kernel_rfl) (fun _ _ _ h => h) (by rfl) ?hy1x hHeld ?ry1x
      case hy1x => (intro w' hSw; (try dsimp only at hSw); go_simp <;> with_reducible rfl)
      try simp only [Act.put, sI, sZ, sS]
      refine take_op (i := 1) (d := 5) (OP := Op.load 2 (Operand.tmp 4)) (T := 2) (v := ?vy2x) rfl rfl rfl rfl (by kernel_rfl) (by kernel_rfl) (by kernel_rfl) (fun _ _ _ h => h) (by rfl) ?hy2x hHeld ?ry2x
      case hy2x => (intro w' hSw; (try dsimp only at hSw); go_simp <;> with_reducible rfl)
      try simp only [Act.put, sI, sZ, sS]
      refine take_op (i := 3) (d := 7) (OP := Op.fieldAddr 27 (Operand.tmp 1) 1) (T := 0) (v := ?vy3x) rfl rfl rfl rfl (by kernel_rfl) (by kernel_rfl) (by kernel_rfl) (fun _ _ _ h => h) (by rfl) ?hy3x hHeld ?ry3x
      case hy3x => (intro w' hSw; (try dsimp only at hSw); go_simp <;> with_reducible rfl)
      try simp only [Act.put, sI, sZ, sS]
      refine take_op (i := 4) (d := 8) (OP := Op.fieldAddr 25 (Operand.tmp 7) 0) (T := 0) (v := ?vy4x) rfl rfl rfl rfl (by kernel_rfl) (by kernel_rfl) (by kernel_rfl) (fun _ _ _ h => h) (by rfl) ?hy4x hHeld ?ry4x
      case hy4x => (intro w' hSw; (try dsimp only at hSw); go_simp <;> with_reducible rfl)
      try simp only [Act.put, sI, sZ, sS]
      refine take_op (i := 5) (d := 9) (OP := Op.fieldAddr 23 (Operand.tmp 8) 0) (T := 0) (v := ?vy5x) rfl rfl rfl rfl (by kernel_rfl) (by kernel_rfl) (by kernel_rfl) (fun _ _ _ h => h) (by rfl) ?hy5x hHeld ?ry5x
      case hy5x => (intro w' hSw; (try dsimp only at hSw); go_simp <;> with_reducible rfl)
      try simp only [Act.put, sI, sZ, sS]
      refine take_op (i := 6) (d := 10) (OP := Op.load 3 (Operand.tmp 9)) (T := 3) (v := ?vy6x) rfl rfl rfl rfl (by kernel_rfl) (by kernel_rfl) (by kernel_rfl) (fun _ _ _ h => h) (by rfl) ?hy6x hHeld ?ry6x
      case hy6x => (intro w' hSw; (try dsimp only at hSw); go_simp <;> with_reducible rfl)
      try simp only [Act.put, sI, sZ, sS]
      refine take_op (i := 7) (d := 11) (OP := Op.convert 3 5 (Operand.tmp 10)) (T := 5) (v := ?vy7x) rfl rfl rfl rfl (by kernel_rfl) (by kernel_rfl) (by kernel_rfl) (fun _ _ _ h => h) (by rfl) ?hy7x hHeld ?ry7x
      case hy7x => (intro w' hSw; (try dsimp only at hSw); go_simp <;> with_reducible rfl)
      try simp only [Act.put, sI, sZ, sS]
      have bl : Below (w.heap.size + 1) W0.drew (W0.drew.alloc (.cells #[.int .u8 r] 5)) := (Below.refl _ W0.drew).alloc hs0 _
      have hSl : (W0.drew.alloc (.cells #[.int .u8 r] 5)).cell? ⟨w.heap.size, 0, none⟩ = some (.int .i64 g) ∧ (W0.drew.alloc (.cells #[.int .u8 r] 5)).cell? ⟨w.heap.size, 1, none⟩ = some (.int .i64 r) ∧ (W0.drew.alloc (.cells #[.int .u8 r] 5)).cell? ⟨w.heap.size, 2, none⟩ = some (.string l) ∧ (W0.drew.alloc (.cells #[.int .u8 r] 5)).cell? ⟨w.heap.size, 3, none⟩ = some (.int .i64 n) ∧ (W0.drew.alloc (.cells #[.int .u8 r] 5)).cell? ⟨w.heap.size, 4, none⟩ = some (.int .i64 x) := ⟨(bl.cell (by simp)).trans hHeld.1, (bl.cell (by simp)).trans hHeld.2.1, (bl.cell (by simp)).trans hHeld.2.2.1, (bl.cell (by simp)).trans hHeld.2.2.2.1, (bl.cell (by simp)).trans hHeld.2.2.2.2⟩
      refine call_turn_op (i := 2) (di := 6) (OPi := Op.call { callee := Callee.value (Operand.func 45), args := #[Operand.tmp 5], argTypes := #[2] }) (Ti := 64) (j := 8) (dj := 12) (OPj := Op.buildSlice 64 1 #[(0, Operand.tmp 11)]) (Tj := 64) (f := 45) (args := #[.int .i64 g]) (u := .slice (some ⟨W0.drew.heap.size, 0, none⟩) 1 1) (w' := W0.drew.alloc (.cells #[.int .u8 r] 5)) rfl rfl rfl rfl rfl rfl rfl rfl (by kernel_rfl) (by rfl) (by rfl) (by go_simp) (by go_simp) hSl ?_ ?_
      · refine (hg _).mono ?_
        rintro e w3 ⟨a1, c1, rfl, hO3, m1, b3⟩
        have hz3 := b3.size
        have hS3 : w3.cell? ⟨w.heap.size, 0, none⟩ = some (.int .i64 g) ∧ w3.cell? ⟨w.heap.size, 1, none⟩ = some (.int .i64 r) ∧ w3.cell? ⟨w.heap.size, 2, none⟩ = some (.string l) ∧ w3.cell? ⟨w.heap.size, 3, none⟩ = some (.int .i64 n) ∧ w3.cell? ⟨w.heap.size, 4, none⟩ = some (.int .i64 x) := ⟨((b3.mono hs0).cell (by simp)).trans hHeld.1, ((b3.mono hs0).cell (by simp)).trans hHeld.2.1, ((b3.mono hs0).cell (by simp)).trans hHeld.2.2.1, ((b3.mono hs0).cell (by simp)).trans hHeld.2.2.2.1, ((b3.mono hs0).cell (by simp)).trans hHeld.2.2.2.2⟩
        refine ⟨_, rfl, hS3, ?_⟩
        replace hHeld := hS3
        try simp only [Act.put, sI, sZ, sS]
        have bm : Below (w.heap.size + 1) w3 (w3.alloc (.cells #[.int .u8 r] 5)) := (Below.refl _ w3).alloc (by omega) _
        have hSm : (w3.alloc (.cells #[.int .u8 r] 5)).cell? ⟨w.heap.size, 0, none⟩ = some (.int .i64 g) ∧ (w3.alloc (.cells #[.int .u8 r] 5)).cell? ⟨w.heap.size, 1, none⟩ = some (.int .i64 r) ∧ (w3.alloc (.cells #[.int .u8 r] 5)).cell? ⟨w.heap.size, 2, none⟩ = some (.string l) ∧ (w3.alloc (.cells #[.int .u8 r] 5)).cell? ⟨w.heap.size, 3, none⟩ = some (.int .i64 n) ∧ (w3.alloc (.cells #[.int .u8 r] 5)).cell? ⟨w.heap.size, 4, none⟩ = some (.int .i64 x) := ⟨(bm.cell (by simp)).trans hHeld.1, (bm.cell (by simp)).trans hHeld.2.1, (bm.cell (by simp)).trans hHeld.2.2.1, (bm.cell (by simp)).trans hHeld.2.2.2.1, (bm.cell (by simp)).trans hHeld.2.2.2.2⟩
        refine turn_op (i := 8) (d := 12) (OP := Op.buildSlice 64 1 #[(0, Operand.tmp 11)]) (T := 64) (v := .slice (some ⟨w3.heap.size, 0, none⟩) 1 1) (w' := w3.alloc (.cells #[.int .u8 r] 5)) rfl rfl rfl rfl (by kernel_rfl) (by rfl) (by go_simp) hSm ?_
        replace hHeld := hSm
        try simp only [Act.put, sI, sZ, sS]
        have hOx := (hO3.alloc (.cells #[.int .u8 r] 5)).lift hs0
        have hRx := rd_one w3 r
        have hsx : w.heap.size + 1 ≤ (w3.alloc (.cells #[.int .u8 r] 5)).heap.size := by simp; omega
        have hbx : Below (w.heap.size + 1) W0 (w3.alloc (.cells #[.int .u8 r] 5)) := (hB0.trans (b3.mono hs0)).alloc (by omega) _
        obtain ⟨a9, c9, w9, run9, hO9, n9, b9⟩ := hap1 (w3.alloc (.cells #[.int .u8 r] 5)) _ _ hOx hRx hsx
        have hS9 : w9.cell? ⟨w.heap.size, 0, none⟩ = some (.int .i64 g) ∧ w9.cell? ⟨w.heap.size, 1, none⟩ = some (.int .i64 r) ∧ w9.cell? ⟨w.heap.size, 2, none⟩ = some (.string l) ∧ w9.cell? ⟨w.heap.size, 3, none⟩ = some (.int .i64 n) ∧ w9.cell? ⟨w.heap.size, 4, none⟩ = some (.int .i64 x) := ⟨(b9.cell (by simp)).trans hHeld.1, (b9.cell (by simp)).trans hHeld.2.1, (b9.cell (by simp)).trans hHeld.2.2.1, (b9.cell (by simp)).trans hHeld.2.2.2.1, (b9.cell (by simp)).trans hHeld.2.2.2.2⟩
        refine turn_op (i := 9) (d := 13) (OP := Op.call { callee := Callee.builtin Builtin.append, args := #[Operand.tmp 6, Operand.tmp 12], argTypes := #[64, 64] }) (T := 64) (v := .slice a9 P1.length c9) (w' := w9) rfl rfl rfl rfl (by kernel_rfl) (by rfl) (exec_append rfl rfl run9) hS9 ?_
        replace hHeld := hS9
        try simp only [Act.put, sI, sZ, sS]
        refine take_op (i := 10) (d := 3) (OP := Op.assign (Operand.tmp 13)) (T := 64) (v := ?vy8x) rfl rfl rfl rfl (by kernel_rfl) (by kernel_rfl) (by kernel_rfl) (fun _ _ _ h => h) (by rfl) ?hy8x hHeld ?ry8x
        case hy8x => (intro w' hSw; (try dsimp only at hSw); go_simp <;> with_reducible rfl)
        try simp only [Act.put, sI, sZ, sS]
        refine wpAnyH_done (by kernel_rfl) ?_ _
        go_wp2
        go_meet
        exact ⟨a9, c9, rfl, hide ⟨hO9, hbx.trans b9⟩⟩
      · try simp only [Act.put, sI, sZ, sS]
        replace hHeld := hSl
        have hz1 : (W0.drew.alloc (.cells #[.int .u8 r] 5)).heap.size = W0.drew.heap.size + 1 := by simp
        refine call_op (i := 2) (d := 6) (OP := Op.call { callee := Callee.value (Operand.func 45), args := #[Operand.tmp 5], argTypes := #[2] }) (T := 64) (f := 45) (args := #[.int .i64 g]) rfl rfl rfl rfl (by kernel_rfl) (by rfl) (by go_simp) ?_
        refine (hg _).mono ?_
        rintro e w3 ⟨a1, c1, rfl, hO3, m1, b3⟩
        have hz3 := b3.size
        have hS3 : w3.cell? ⟨w.heap.size, 0, none⟩ = some (.int .i64 g) ∧ w3.cell? ⟨w.heap.size, 1, none⟩ = some (.int .i64 r) ∧ w3.cell? ⟨w.heap.size, 2, none⟩ = some (.string l) ∧ w3.cell? ⟨w.heap.size, 3, none⟩ = some (.int .i64 n) ∧ w3.cell? ⟨w.heap.size, 4, none⟩ = some (.int .i64 x) := ⟨((b3.mono (by omega : w.heap.size + 1 ≤ _)).cell (by simp)).trans hHeld.1, ((b3.mono (by omega : w.heap.size + 1 ≤ _)).cell (by simp)).trans hHeld.2.1, ((b3.mono (by omega : w.heap.size + 1 ≤ _)).cell (by simp)).trans hHeld.2.2.1, ((b3.mono (by omega : w.heap.size + 1 ≤ _)).cell (by simp)).trans hHeld.2.2.2.1, ((b3.mono (by omega : w.heap.size + 1 ≤ _)).cell (by simp)).trans hHeld.2.2.2.2⟩
        refine ⟨_, rfl, hS3, ?_⟩
        replace hHeld := hS3
        try simp only [Act.put, sI, sZ, sS]
        have hOx := hO3.lift (by omega : w.heap.size + 1 ≤ _)
        have hRx := (rd_one W0.drew r).below b3
        have hsx : w.heap.size + 1 ≤ w3.heap.size := by omega
        have hbx : Below (w.heap.size + 1) W0 w3 := (hB0.trans bl).trans (b3.mono (by omega))
        obtain ⟨a9, c9, w9, run9, hO9, n9, b9⟩ := hap1 w3 _ _ hOx hRx hsx
        have hS9 : w9.cell? ⟨w.heap.size, 0, none⟩ = some (.int .i64 g) ∧ w9.cell? ⟨w.heap.size, 1, none⟩ = some (.int .i64 r) ∧ w9.cell? ⟨w.heap.size, 2, none⟩ = some (.string l) ∧ w9.cell? ⟨w.heap.size, 3, none⟩ = some (.int .i64 n) ∧ w9.cell? ⟨w.heap.size, 4, none⟩ = some (.int .i64 x) := ⟨(b9.cell (by simp)).trans hHeld.1, (b9.cell (by simp)).trans hHeld.2.1, (b9.cell (by simp)).trans hHeld.2.2.1, (b9.cell (by simp)).trans hHeld.2.2.2.1, (b9.cell (by simp)).trans hHeld.2.2.2.2⟩
        refine turn_op (i := 9) (d := 13) (OP := Op.call { callee := Callee.builtin Builtin.append, args := #[Operand.tmp 6, Operand.tmp 12], argTypes := #[64, 64] }) (T := 64) (v := .slice a9 P1.length c9) (w' := w9) rfl rfl rfl rfl (by kernel_rfl) (by rfl) (exec_append rfl rfl run9) hS9 ?_
        replace hHeld := hS9
        try simp only [Act.put, sI, sZ, sS]
        refine take_op (i := 10) (d := 3) (OP := Op.assign (Operand.tmp 13)) (T := 64) (v := ?vy9x) rfl rfl rfl rfl (by kernel_rfl) (by kernel_rfl) (by kernel_rfl) (fun _ _ _ h => h) (by rfl) ?hy9x hHeld ?ry9x
        case hy9x => (intro w' hSw; (try dsimp only at hSw); go_simp <;> with_reducible rfl)
        try simp only [Act.put, sI, sZ, sS]
        refine wpAnyH_done (by kernel_rfl) ?_ _
        go_wp2
        go_meet
        exact ⟨a9, c9, rfl, hide ⟨hO9, hbx.trans b9⟩⟩
  case rest =>
    obtain ⟨a9, c9, rfl, HO⟩ := hcut
    obtain ⟨hO9, hB9⟩ := HO.out
    have z9 : w.heap.size + 1 ≤ wc.heap.size := Nat.le_trans hs0 hB9.size
    obtain ⟨y0, y1, y2, y3, y4, _, _, _, _, _⟩ := blk5 (HK.out _ hB9)
    obtain ⟨a4, c4, w4, run4, hO4, m4, b4⟩ := hap2 wc _ hO9 z9
    have z4 := Nat.le_trans z9 b4.size
    obtain ⟨a5, c5, w5, run5, hO5, m5, b5⟩ := hap3 (w4.alloc (.cells #[.int .u8 0] 5)) _ ⟨w4.heap.size, 0, none⟩ (hO4.alloc _) (rd_one w4 0) (by simp; omega)
    have z5 : w.heap.size + 1 ≤ w5.heap.size := by have := b5.size; simp at this; omega
    have hB5 : Below (w.heap.size + 1) W0 w5 := ((hB9.trans b4).alloc z4 _).trans b5
    obtain ⟨v0, v1, v2, v3, v4, _, _, _, _, _⟩ := blk5 (HK.out _ hB5)
    clear hO9 hO4 b4 b5 HO hB9
    go_wp2_with (first | (at_builtin; first | refine wpList_app2 rfl (.tmp 14) (.tmp 18) 64 9 64 rfl rfl rfl rfl run4 ?_ | refine wpList_app2 rfl (.tmp 20) (.tmp 21) 64 64 64 rfl rfl rfl rfl run5 ?_ | refine wpList_app2 rfl (.tmp 23) (.tmp 27) 64 64 64 rfl rfl rfl rfl run7 ?_ | refine wpList_app2 rfl (.tmp 29) (.tmp 33) 64 64 64 rfl rfl rfl rfl run8 ?_) | (go_at_call 45; refine (hn _).mono ?_; rintro e w6 ⟨a6, c6, rfl, hO6, m6, b6⟩; have z6 := Nat.le_trans z5 b6.size; have hB6 := hB5.trans (b6.mono z5); obtain ⟨a7, c7, w7, run7, hO7, m7, b7⟩ := hap4 w6 _ a6 c6 (hO5.below b6) hO6.rd m6 z6; clear hO6 hO5; have z7 := Nat.le_trans z6 b7.size; have hB7 := hB6.trans b7; obtain ⟨t0, t1, t2, t3, t4, _, _, _, _, _⟩ := blk5 (HK.out _ hB7); clear v0 v1 v2 v3 v4 hB6 b6 b7; obtain ⟨a8, c8, w8, run8, hO8, m8, b8⟩ := hap5 (w7.alloc (.cells #[.int .u8 x] 5)) _ ⟨w7.heap.size, 0, none⟩ (hO7.alloc _) (rd_one w7 x) (by simp; omega); have hB8 : Below (w.heap.size + 1) W0 w8 := (hB7.alloc z7 _).trans b8; have hcv := conv_rd (n := P5.length) (cap := c8) hO8.rd rfl; rw [hkey'] at hcv; clear hO7 hO8 b8 hB7))
    go_ret
    exact ⟨rfl, hBW0.trans (hB8.mono (by omega))⟩
end Go.Proofs.YtkkpdgfllnbigaaGreatDoor
