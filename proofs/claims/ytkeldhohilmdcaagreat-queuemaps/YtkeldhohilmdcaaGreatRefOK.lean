/-
  REFKEY: the document's own key of a stamp.
  REFOK: the document's reading of a key.
  tagset and register: may these elements be (the document's May, 11).
  tagset and register: the document's May says what Of asks.
  Elements put in one by one, by rising stamps: the plain theory.
-/
import Derived.Test.YtkeldhohilmdcaaGreatTold
import Derived.Deep.DeepCutAuto
import Derived.Deep.CutBlock
import Derived.Test.YtkeldhohilmdcaaGreatOfKey
import Derived.Test.YtkeldhohilmdcaaGreatReg9
import Derived.Test.YtkeldhohilmdcaaGreatEqs9
import Derived.Test.YtkeldhohilmdcaaGreatCmp6
namespace Go.Proofs.YtkeldhohilmdcaaGreat
open Go.RowKit Go.Shelf
set_option linter.unusedSimpArgs false

theorem app_own {w : World} {B : Nat} {v : Value} {p l : List Int} {ao : Option Addr} {c : Nat} (hown : Own 5 w B v p) (hc : ao = none → c = 0) (hrd : Rd w ao l) (hbytes : p.length + l.length ≤ 140737488355328) (hB : B ≤ w.heap.size) :
    ∃ a' c' w', (Builtin.append_ #[115, 115] 115 #[v, .slice ao l.length c]).run Tryz.prog w = .ok (.slice a' (p ++ l).length c') w' ∧ Own 5 w' B (.slice a' (p ++ l).length c') (p ++ l) ∧ (a' = none → c' = 0) ∧ Below B w w' := by
  obtain ⟨i0, hi, hz0, hz1, hz2⟩ := info_parts Tryz.info5
  cases ao with
  | none =>
    have hl := hrd.1 rfl
    subst hl
    have hc0 := hc rfl
    subst hc0
    obtain ⟨a', c', rfl, hn⟩ := hown.form
    rw [List.append_nil]
    exact ⟨a', c', w, run_append_owned_none (P := Tryz.prog) (w := w) B 115 115 5 i0 1 Tryz.underlying115 hi _ _ _ hown, hown, hn, Below.refl _ _⟩
  | some ad =>
    obtain ⟨v', w', hr, h2, h3, _⟩ := run_append_own (P := Tryz.prog) w B 115 115 5 i0 (.int .u8 0) 1 1 Tryz.underlying115 hi hz0 hz1 hz2 rfl (by decide) v p.length (u8s p) hown ad l.length c (u8s l) (by simp [u8s]) (fun j u hj => hrd.2 ad rfl j u hj) u8s_one (by unfold maxLen; omega) (by omega) hB
    have hO : Own 5 w' B v' (p ++ l) := by unfold Own; rw [u8s_append, List.length_append]; exact h2
    obtain ⟨a', c', rfl, hn⟩ := hO.form
    exact ⟨a', c', w', hr, hO, hn, (Below.refl B w).grown h3 hB (fun k hk => (World.ownsRow.lt hown k hk).1)⟩

theorem app_str {W : World} {B : Nat} {v : Value} {p : List Int} (s : ByteArray) (h : Own 5 W B v p) (hlen : p.length + s.size ≤ 140737488355328) (hB : B ≤ W.heap.size) :
    ∃ a' c' w', (Builtin.append_ #[115, 9] 115 #[v, .string s]).run Tryz.prog W = .ok (.slice a' (p ++ ints s.data.toList).length c') w' ∧ Own 5 w' B (.slice a' (p ++ ints s.data.toList).length c') (p ++ ints s.data.toList) ∧ (a' = none → c' = 0) ∧ Below B W w' := by
  obtain ⟨i0, hi, hz0, hz1, hz2⟩ := info_parts Tryz.info5
  obtain ⟨v', w', hr, h2, h3, h4⟩ := Lib.run_append_own_string (P := Tryz.prog) W B 115 9 115 5 i0 Tryz.underlying115 Tryz.underlying9 hi hz0 hz1 hz2 v p.length (u8s p) h s (by unfold maxLen; omega) hlen hB
  have e1 : u8s (p ++ ints s.data.toList) = u8s p ++ Lib.strCells s := by simp [u8s, ints, Lib.strCells]
  have e2 : (p ++ ints s.data.toList).length = p.length + s.size := by rw [List.length_append, ints_size]
  have hO : Own 5 w' B v' (p ++ ints s.data.toList) := by unfold Own; rw [e1, e2]; exact h2
  obtain ⟨a', c', rfl, hn⟩ := hO.form
  exact ⟨a', c', w', hr, hO, hn, (Below.refl B W).grown h3 hB (fun k hk => (World.ownsRow.lt h k hk).1)⟩
theorem wpList_app2 {P : Program} {w w' : World} {ops : Array Oper} {rest : List Oper} {o : Oper} {a : Act} {Q : Exit → Act → World → Prop} (hgd : o.guard = none) (s x : Operand) (t u T : TypeId)
    (ho : o.op = .call { callee := .builtin .append, args := #[s, x], argTypes := #[t, u] }) (hT : o.type = T) {v y v' : Value} (hs : a.eval s = v) (hx : a.eval x = y) (hr : (Builtin.append_ #[t, u] T #[v, y]).run P w = .ok v' w')
    (h : wpList P ops Q rest (a.put o.dst v') w') : wpList P ops Q (o :: rest) a w :=
  wpList_plain hgd fun K hK => by
    unfold Oper.wp
    rw [exec_same a.eval o ho hT]
    simp only [execOp, resolve, invoke, builtin, Sem.run_bind, Sem.run_pure, Result.andThen_ok, List.map_toArray, List.map_cons, List.map_nil, hs, hx, hr]
    exact hK _ _ h
theorem rd_one (W : World) (b : Int) : Rd (W.alloc (.cells #[.int .u8 b] 5)) (some ⟨W.heap.size, 0, none⟩) [b] := by
  refine ⟨by simp, ?_⟩
  intro a' ha' j u hj
  cases ha'
  match j, hj with
  | 0, hj => simp [u8s] at hj; subst hj; simp [Addr.add]
theorem str_app (a b : List Int) : strOfNums (a ++ b) = strOfNums a ++ strOfNums b := by
  apply ByteArray.ext
  apply Array.toList_inj.1
  simp [strOfNums]
set_option maxHeartbeats 4000000 in
set_option maxRecDepth 100000 in
theorem refKey_any (g r : Int) (l : ByteArray) (n x : Int) (w : World) (h0 : 0 ≤ r) (h1 : r ≤ 255) (hl : l.size ≤ 1000000) (n0 : 0 ≤ n) (_n1 : n ≤ 9223372036854775807) (g0 : 0 ≤ g) (_g1 : g ≤ 9223372036854775807) (x0 : 0 ≤ x) (x1 : x ≤ 255) : Calls Tryz.prog 138 #[sv g r l n x] w fun e w' => e = .returned (.string (keyS g r l n x)) ∧ Below w.heap.size w w' := by
  have hb := below_new w (.cells #[.int .i64 g, .int .i64 r, .string l, .int .i64 n, .int .i64 x] 43)
  have hbk := heap_alloc_new w (.cells #[.int .i64 g, .int .i64 r, .string l, .int .i64 n, .int .i64 x] 43)
  obtain ⟨p0, p1, p2, p3, p4⟩ := five_new w (.int .i64 g) (.int .i64 r) (.string l) (.int .i64 n) (.int .i64 x) 43
  have wr : IntKind.u8.wrap r = r := by rw [IntKind.wrap_u8]; omega
  have wx : IntKind.u8.wrap x = x := by rw [IntKind.wrap_u8]; omega
  have hg : ∀ W, Calls Tryz.prog 167 #[.int .i64 g] W fun e w' => Made 5 W w' e (low g.toNat 8) := fun W => by have := eight_any g.toNat W; rw [Int.toNat_of_nonneg g0] at this; exact this
  have hn : ∀ W, Calls Tryz.prog 167 #[.int .i64 n] W fun e w' => Made 5 W w' e (low n.toNat 8) := fun W => by have := eight_any n.toNat W; rw [Int.toNat_of_nonneg n0] at this; exact this
  have l1 := low_length g.toNat 8
  have l2 := low_length n.toNat 8
  have l3 := ints_size l
  have hkey : strOfNums (((((low g.toNat 8 ++ [r]) ++ ints l.data.toList) ++ [0]) ++ low n.toNat 8) ++ [x]) = keyS g r l n x := by
    unfold keyS
    rw [str_app, str_app, str_app, str_app, str_app, str_ints]
    rfl
  generalize keyS g r l n x = KS at hkey ⊢
  generalize low g.toNat 8 = LG at hg l1 hkey
  generalize low n.toNat 8 = LN at hn l2 hkey
  obtain ⟨LL, eL⟩ : ∃ LL, ints l.data.toList = LL := ⟨_, rfl⟩
  rw [eL] at l3 hkey
  have B1 : ∀ {W : World}, Below (w.heap.size + 1) W W → True := fun _ => trivial
  clear B1
  obtain ⟨P1, e1⟩ : ∃ P1, P1 = LG ++ [r] := ⟨_, rfl⟩
  obtain ⟨P2, e2⟩ : ∃ P2, P2 = P1 ++ LL := ⟨_, rfl⟩
  obtain ⟨P3, e3⟩ : ∃ P3, P3 = P2 ++ [0] := ⟨_, rfl⟩
  obtain ⟨P4, e4⟩ : ∃ P4, P4 = P3 ++ LN := ⟨_, rfl⟩
  obtain ⟨P5, e5⟩ : ∃ P5, P5 = P4 ++ [x] := ⟨_, rfl⟩
  have hkey' : strOfNums P5 = KS := by rw [e5, e4, e3, e2, e1]; exact hkey
  have s1 : P1.length = 9 := by rw [e1, List.length_append]; simp [l1]
  have s2 : P2.length = 9 + l.size := by rw [e2, List.length_append]; omega
  have s3 : P3.length = 10 + l.size := by rw [e3, List.length_append]; simp; omega
  have s4 : P4.length = 18 + l.size := by rw [e4, List.length_append]; omega
  have hap1 : ∀ (W : World) (v : Value) (ad : Addr), Own 5 W (w.heap.size + 1) v LG → Rd W (some ad) [r] → w.heap.size + 1 ≤ W.heap.size → ∃ a' c' w', (Builtin.append_ #[115, 115] 115 #[v, .slice (some ad) 1 1]).run Tryz.prog W = .ok (.slice a' P1.length c') w' ∧ Own 5 w' (w.heap.size + 1) (.slice a' P1.length c') P1 ∧ (a' = none → c' = 0) ∧ Below (w.heap.size + 1) W w' := fun W v ad q1 q2 hs => by
    have hh := app_own (p := LG) (l := [r]) (ao := some ad) (c := 1) q1 (fun h => by cases h) q2 (by show _ + 1 ≤ _; omega) hs
    rw [show ([r] : List Int).length = 1 from rfl] at hh
    rw [e1]; exact hh
  have hap2 : ∀ (W : World) (v : Value), Own 5 W (w.heap.size + 1) v P1 → w.heap.size + 1 ≤ W.heap.size → ∃ a' c' w', (Builtin.append_ #[115, 9] 115 #[v, .string l]).run Tryz.prog W = .ok (.slice a' P2.length c') w' ∧ Own 5 w' (w.heap.size + 1) (.slice a' P2.length c') P2 ∧ (a' = none → c' = 0) ∧ Below (w.heap.size + 1) W w' := fun W v q1 hs => by
    have hh := app_str (p := P1) l q1 (by omega) hs
    rw [eL] at hh
    rw [e2]; exact hh
  have hap3 : ∀ (W : World) (v : Value) (ad : Addr), Own 5 W (w.heap.size + 1) v P2 → Rd W (some ad) [0] → w.heap.size + 1 ≤ W.heap.size → ∃ a' c' w', (Builtin.append_ #[115, 115] 115 #[v, .slice (some ad) 1 1]).run Tryz.prog W = .ok (.slice a' P3.length c') w' ∧ Own 5 w' (w.heap.size + 1) (.slice a' P3.length c') P3 ∧ (a' = none → c' = 0) ∧ Below (w.heap.size + 1) W w' := fun W v ad q1 q2 hs => by
    have hh := app_own (p := P2) (l := [0]) (ao := some ad) (c := 1) q1 (fun h => by cases h) q2 (by show _ + 1 ≤ _; omega) hs
    rw [show ([0] : List Int).length = 1 from rfl] at hh
    rw [e3]; exact hh
  have hap4 : ∀ (W : World) (v : Value) (ad : Option Addr) (c : Nat), Own 5 W (w.heap.size + 1) v P3 → Rd W ad LN → (ad = none → c = 0) → w.heap.size + 1 ≤ W.heap.size → ∃ a' c' w', (Builtin.append_ #[115, 115] 115 #[v, .slice ad LN.length c]).run Tryz.prog W = .ok (.slice a' P4.length c') w' ∧ Own 5 w' (w.heap.size + 1) (.slice a' P4.length c') P4 ∧ (a' = none → c' = 0) ∧ Below (w.heap.size + 1) W w' := fun W v ad c q1 q2 q3 hs => by
    have hh := app_own (p := P3) (l := LN) (ao := ad) (c := c) q1 q3 q2 (by omega) hs
    rw [e4]; exact hh
  have hap5 : ∀ (W : World) (v : Value) (ad : Addr), Own 5 W (w.heap.size + 1) v P4 → Rd W (some ad) [x] → w.heap.size + 1 ≤ W.heap.size → ∃ a' c' w', (Builtin.append_ #[115, 115] 115 #[v, .slice (some ad) 1 1]).run Tryz.prog W = .ok (.slice a' P5.length c') w' ∧ Own 5 w' (w.heap.size + 1) (.slice a' P5.length c') P5 ∧ (a' = none → c' = 0) ∧ Below (w.heap.size + 1) W w' := fun W v ad q1 q2 hs => by
    have hh := app_own (p := P4) (l := [x]) (ao := some ad) (c := 1) q1 (fun h => by cases h) q2 (by show _ + 1 ≤ _; omega) hs
    rw [show ([x] : List Int).length = 1 from rfl] at hh
    rw [e5]; exact hh
  have hkc : ∀ W, Below (w.heap.size + 1) (w.alloc (.cells #[.int .i64 g, .int .i64 r, .string l, .int .i64 n, .int .i64 x] 43)) W → W.heap[w.heap.size]? = some (.cells #[.int .i64 g, .int .i64 r, .string l, .int .i64 n, .int .i64 x] 43) := fun W h => (h.block _ (by omega)).trans hbk
  clear e1 e2 e3 e4 e5 hkey s1 s2 s3 s4 l1 l2 l3 eL
  go_enter Tryz.func138, Tryz.ntmps138
  go_wp2
  have hs0 : w.heap.size + 1 ≤ (w.alloc (.cells #[.int .i64 g, .int .i64 r, .string l, .int .i64 n, .int .i64 x] 43)).drew.heap.size := by show _ ≤ (w.alloc _).heap.size; simp
  generalize (w.alloc (.cells #[.int .i64 g, .int .i64 r, .string l, .int .i64 n, .int .i64 x] 43)) = W0 at hb hbk hkc p0 p1 p2 p3 p4 hs0 ⊢
  have hS1 : W0.drew.cell? ⟨w.heap.size, 0, none⟩ = some (.int .i64 g) ∧ W0.drew.cell? ⟨w.heap.size, 1, none⟩ = some (.int .i64 r) ∧ W0.drew.cell? ⟨w.heap.size, 2, none⟩ = some (.string l) ∧ W0.drew.cell? ⟨w.heap.size, 3, none⟩ = some (.int .i64 n) ∧ W0.drew.cell? ⟨w.heap.size, 4, none⟩ = some (.int .i64 x) := ⟨p0, p1, p2, p3, p4⟩
  have hBW : Below w.heap.size w W0.drew := hb.drew
  have hBW0 : Below w.heap.size w W0 := hb
  have hB0 : Below (w.heap.size + 1) W0 W0.drew := (Below.refl _ W0).drew
  clear hb p0 p1 p2 p3 p4 hbk
  have HK := hide hkc
  clear hkc
  go_cut [3] (fun v3 wc => ∃ a9 c9, v3 = .slice a9 P1.length c9 ∧ Hid (Own 5 wc (w.heap.size + 1) (.slice a9 P1.length c9) P1 ∧ Below (w.heap.size + 1) W0 wc))
  case first =>
    as_aux_lemma =>
      refine wp_region_held_drew (S := (fun w' => w'.cell? ⟨w.heap.size, 0, none⟩ = some (.int .i64 g) ∧ w'.cell? ⟨w.heap.size, 1, none⟩ = some (.int .i64 r) ∧ w'.cell? ⟨w.heap.size, 2, none⟩ = some (.string l) ∧ w'.cell? ⟨w.heap.size, 3, none⟩ = some (.int .i64 n) ∧ w'.cell? ⟨w.heap.size, 4, none⟩ = some (.int .i64 x))) (by kernel_rfl) (by exact hS1) (fun hHeld => ?_)
      try dsimp only at hHeld
      refine take_op (i := 0) (d := 4) (OP := Op.fieldAddr 43 (Operand.tmp 1) 0) (T := 0) (v := ?vy1x) rfl rfl rfl rfl (by kernel_rfl) (by kernel_rfl) (by kernel_rfl) (fun _ _ _ h => h) (by rfl) ?hy1x hHeld ?ry1x
      case hy1x => (intro w' hSw; (try dsimp only at hSw); go_simp <;> with_reducible rfl)
      try simp only [Act.put, List.setIfInBounds_toArray, List.set_cons_zero, List.set_cons_succ]
      refine take_op (i := 1) (d := 5) (OP := Op.load 2 (Operand.tmp 4)) (T := 2) (v := ?vy2x) rfl rfl rfl rfl (by kernel_rfl) (by kernel_rfl) (by kernel_rfl) (fun _ _ _ h => h) (by rfl) ?hy2x hHeld ?ry2x
      case hy2x => (intro w' hSw; (try dsimp only at hSw); go_simp <;> with_reducible rfl)
      try simp only [Act.put, List.setIfInBounds_toArray, List.set_cons_zero, List.set_cons_succ]
      refine take_op (i := 3) (d := 7) (OP := Op.fieldAddr 43 (Operand.tmp 1) 1) (T := 0) (v := ?vy3x) rfl rfl rfl rfl (by kernel_rfl) (by kernel_rfl) (by kernel_rfl) (fun _ _ _ h => h) (by rfl) ?hy3x hHeld ?ry3x
      case hy3x => (intro w' hSw; (try dsimp only at hSw); go_simp <;> with_reducible rfl)
      try simp only [Act.put, List.setIfInBounds_toArray, List.set_cons_zero, List.set_cons_succ]
      refine take_op (i := 4) (d := 8) (OP := Op.fieldAddr 41 (Operand.tmp 7) 0) (T := 0) (v := ?vy4x) rfl rfl rfl rfl (by kernel_rfl) (by kernel_rfl) (by kernel_rfl) (fun _ _ _ h => h) (by rfl) ?hy4x hHeld ?ry4x
      case hy4x => (intro w' hSw; (try dsimp only at hSw); go_simp <;> with_reducible rfl)
      try simp only [Act.put, List.setIfInBounds_toArray, List.set_cons_zero, List.set_cons_succ]
      refine take_op (i := 5) (d := 9) (OP := Op.fieldAddr 39 (Operand.tmp 8) 0) (T := 0) (v := ?vy5x) rfl rfl rfl rfl (by kernel_rfl) (by kernel_rfl) (by kernel_rfl) (fun _ _ _ h => h) (by rfl) ?hy5x hHeld ?ry5x
      case hy5x => (intro w' hSw; (try dsimp only at hSw); go_simp <;> with_reducible rfl)
      try simp only [Act.put, List.setIfInBounds_toArray, List.set_cons_zero, List.set_cons_succ]
      refine take_op (i := 6) (d := 10) (OP := Op.load 3 (Operand.tmp 9)) (T := 3) (v := ?vy6x) rfl rfl rfl rfl (by kernel_rfl) (by kernel_rfl) (by kernel_rfl) (fun _ _ _ h => h) (by rfl) ?hy6x hHeld ?ry6x
      case hy6x => (intro w' hSw; (try dsimp only at hSw); go_simp <;> with_reducible rfl)
      try simp only [Act.put, List.setIfInBounds_toArray, List.set_cons_zero, List.set_cons_succ]
      refine take_op (i := 7) (d := 11) (OP := Op.convert 3 5 (Operand.tmp 10)) (T := 5) (v := ?vy7x) rfl rfl rfl rfl (by kernel_rfl) (by kernel_rfl) (by kernel_rfl) (fun _ _ _ h => h) (by rfl) ?hy7x hHeld ?ry7x
      case hy7x => (intro w' hSw; (try dsimp only at hSw); go_simp <;> with_reducible rfl)
      try simp only [Act.put, List.setIfInBounds_toArray, List.set_cons_zero, List.set_cons_succ]
      have bl : Below (w.heap.size + 1) W0.drew (W0.drew.alloc (.cells #[.int .u8 r] 5)) := (Below.refl _ W0.drew).alloc hs0 _
      have hSl : (W0.drew.alloc (.cells #[.int .u8 r] 5)).cell? ⟨w.heap.size, 0, none⟩ = some (.int .i64 g) ∧ (W0.drew.alloc (.cells #[.int .u8 r] 5)).cell? ⟨w.heap.size, 1, none⟩ = some (.int .i64 r) ∧ (W0.drew.alloc (.cells #[.int .u8 r] 5)).cell? ⟨w.heap.size, 2, none⟩ = some (.string l) ∧ (W0.drew.alloc (.cells #[.int .u8 r] 5)).cell? ⟨w.heap.size, 3, none⟩ = some (.int .i64 n) ∧ (W0.drew.alloc (.cells #[.int .u8 r] 5)).cell? ⟨w.heap.size, 4, none⟩ = some (.int .i64 x) := ⟨(bl.cell (by simp)).trans hHeld.1, (bl.cell (by simp)).trans hHeld.2.1, (bl.cell (by simp)).trans hHeld.2.2.1, (bl.cell (by simp)).trans hHeld.2.2.2.1, (bl.cell (by simp)).trans hHeld.2.2.2.2⟩
      refine call_turn_op (i := 2) (di := 6) (OPi := Op.call { callee := Callee.value (Operand.func 167), args := #[Operand.tmp 5], argTypes := #[2] }) (Ti := 115) (j := 8) (dj := 12) (OPj := Op.buildSlice 115 1 #[(0, Operand.tmp 11)]) (Tj := 115) (f := 167) (args := #[.int .i64 g]) (u := .slice (some ⟨W0.drew.heap.size, 0, none⟩) 1 1) (w' := W0.drew.alloc (.cells #[.int .u8 r] 5)) rfl rfl rfl rfl rfl rfl rfl rfl (by kernel_rfl) (by rfl) (by rfl) (by go_simp) (by go_simp) hSl ?_ ?_
      · refine (hg _).mono ?_
        rintro e w3 ⟨a1, c1, rfl, hO3, m1, b3⟩
        have hz3 := b3.size
        have hS3 : w3.cell? ⟨w.heap.size, 0, none⟩ = some (.int .i64 g) ∧ w3.cell? ⟨w.heap.size, 1, none⟩ = some (.int .i64 r) ∧ w3.cell? ⟨w.heap.size, 2, none⟩ = some (.string l) ∧ w3.cell? ⟨w.heap.size, 3, none⟩ = some (.int .i64 n) ∧ w3.cell? ⟨w.heap.size, 4, none⟩ = some (.int .i64 x) := ⟨((b3.mono hs0).cell (by simp)).trans hHeld.1, ((b3.mono hs0).cell (by simp)).trans hHeld.2.1, ((b3.mono hs0).cell (by simp)).trans hHeld.2.2.1, ((b3.mono hs0).cell (by simp)).trans hHeld.2.2.2.1, ((b3.mono hs0).cell (by simp)).trans hHeld.2.2.2.2⟩
        refine ⟨_, rfl, hS3, ?_⟩
        replace hHeld := hS3
        try simp only [Act.put, List.setIfInBounds_toArray, List.set_cons_zero, List.set_cons_succ]
        have bm : Below (w.heap.size + 1) w3 (w3.alloc (.cells #[.int .u8 r] 5)) := (Below.refl _ w3).alloc (by omega) _
        have hSm : (w3.alloc (.cells #[.int .u8 r] 5)).cell? ⟨w.heap.size, 0, none⟩ = some (.int .i64 g) ∧ (w3.alloc (.cells #[.int .u8 r] 5)).cell? ⟨w.heap.size, 1, none⟩ = some (.int .i64 r) ∧ (w3.alloc (.cells #[.int .u8 r] 5)).cell? ⟨w.heap.size, 2, none⟩ = some (.string l) ∧ (w3.alloc (.cells #[.int .u8 r] 5)).cell? ⟨w.heap.size, 3, none⟩ = some (.int .i64 n) ∧ (w3.alloc (.cells #[.int .u8 r] 5)).cell? ⟨w.heap.size, 4, none⟩ = some (.int .i64 x) := ⟨(bm.cell (by simp)).trans hHeld.1, (bm.cell (by simp)).trans hHeld.2.1, (bm.cell (by simp)).trans hHeld.2.2.1, (bm.cell (by simp)).trans hHeld.2.2.2.1, (bm.cell (by simp)).trans hHeld.2.2.2.2⟩
        refine turn_op (i := 8) (d := 12) (OP := Op.buildSlice 115 1 #[(0, Operand.tmp 11)]) (T := 115) (v := .slice (some ⟨w3.heap.size, 0, none⟩) 1 1) (w' := w3.alloc (.cells #[.int .u8 r] 5)) rfl rfl rfl rfl (by kernel_rfl) (by rfl) (by go_simp) hSm ?_
        replace hHeld := hSm
        try simp only [Act.put, List.setIfInBounds_toArray, List.set_cons_zero, List.set_cons_succ]
        have hOx := (hO3.alloc (.cells #[.int .u8 r] 5)).lift hs0
        have hRx := rd_one w3 r
        have hsx : w.heap.size + 1 ≤ (w3.alloc (.cells #[.int .u8 r] 5)).heap.size := by simp; omega
        have hbx : Below (w.heap.size + 1) W0 (w3.alloc (.cells #[.int .u8 r] 5)) := (hB0.trans (b3.mono hs0)).alloc (by omega) _
        obtain ⟨a9, c9, w9, run9, hO9, n9, b9⟩ := hap1 (w3.alloc (.cells #[.int .u8 r] 5)) _ _ hOx hRx hsx
        have hS9 : w9.cell? ⟨w.heap.size, 0, none⟩ = some (.int .i64 g) ∧ w9.cell? ⟨w.heap.size, 1, none⟩ = some (.int .i64 r) ∧ w9.cell? ⟨w.heap.size, 2, none⟩ = some (.string l) ∧ w9.cell? ⟨w.heap.size, 3, none⟩ = some (.int .i64 n) ∧ w9.cell? ⟨w.heap.size, 4, none⟩ = some (.int .i64 x) := ⟨(b9.cell (by simp)).trans hHeld.1, (b9.cell (by simp)).trans hHeld.2.1, (b9.cell (by simp)).trans hHeld.2.2.1, (b9.cell (by simp)).trans hHeld.2.2.2.1, (b9.cell (by simp)).trans hHeld.2.2.2.2⟩
        refine turn_op (i := 9) (d := 13) (OP := Op.call { callee := Callee.builtin Builtin.append, args := #[Operand.tmp 6, Operand.tmp 12], argTypes := #[115, 115] }) (T := 115) (v := .slice a9 P1.length c9) (w' := w9) rfl rfl rfl rfl (by kernel_rfl) (by rfl) (exec_append rfl rfl run9) hS9 ?_
        replace hHeld := hS9
        try simp only [Act.put, List.setIfInBounds_toArray, List.set_cons_zero, List.set_cons_succ]
        refine take_op (i := 10) (d := 3) (OP := Op.assign (Operand.tmp 13)) (T := 115) (v := ?vy8x) rfl rfl rfl rfl (by kernel_rfl) (by kernel_rfl) (by kernel_rfl) (fun _ _ _ h => h) (by rfl) ?hy8x hHeld ?ry8x
        case hy8x => (intro w' hSw; (try dsimp only at hSw); go_simp <;> with_reducible rfl)
        try simp only [Act.put, List.setIfInBounds_toArray, List.set_cons_zero, List.set_cons_succ]
        refine wpAnyH_done (by kernel_rfl) ?_ _
        go_wp2
        go_meet
        exact ⟨a9, c9, rfl, hide ⟨hO9, hbx.trans b9⟩⟩
      · try simp only [Act.put, List.setIfInBounds_toArray, List.set_cons_zero, List.set_cons_succ]
        replace hHeld := hSl
        have hz1 : (W0.drew.alloc (.cells #[.int .u8 r] 5)).heap.size = W0.drew.heap.size + 1 := by simp
        refine call_op (i := 2) (d := 6) (OP := Op.call { callee := Callee.value (Operand.func 167), args := #[Operand.tmp 5], argTypes := #[2] }) (T := 115) (f := 167) (args := #[.int .i64 g]) rfl rfl rfl rfl (by kernel_rfl) (by rfl) (by go_simp) ?_
        refine (hg _).mono ?_
        rintro e w3 ⟨a1, c1, rfl, hO3, m1, b3⟩
        have hz3 := b3.size
        have hS3 : w3.cell? ⟨w.heap.size, 0, none⟩ = some (.int .i64 g) ∧ w3.cell? ⟨w.heap.size, 1, none⟩ = some (.int .i64 r) ∧ w3.cell? ⟨w.heap.size, 2, none⟩ = some (.string l) ∧ w3.cell? ⟨w.heap.size, 3, none⟩ = some (.int .i64 n) ∧ w3.cell? ⟨w.heap.size, 4, none⟩ = some (.int .i64 x) := ⟨((b3.mono (by omega : w.heap.size + 1 ≤ _)).cell (by simp)).trans hHeld.1, ((b3.mono (by omega : w.heap.size + 1 ≤ _)).cell (by simp)).trans hHeld.2.1, ((b3.mono (by omega : w.heap.size + 1 ≤ _)).cell (by simp)).trans hHeld.2.2.1, ((b3.mono (by omega : w.heap.size + 1 ≤ _)).cell (by simp)).trans hHeld.2.2.2.1, ((b3.mono (by omega : w.heap.size + 1 ≤ _)).cell (by simp)).trans hHeld.2.2.2.2⟩
        refine ⟨_, rfl, hS3, ?_⟩
        replace hHeld := hS3
        try simp only [Act.put, List.setIfInBounds_toArray, List.set_cons_zero, List.set_cons_succ]
        have hOx := hO3.lift (by omega : w.heap.size + 1 ≤ _)
        have hRx := (rd_one W0.drew r).below b3
        have hsx : w.heap.size + 1 ≤ w3.heap.size := by omega
        have hbx : Below (w.heap.size + 1) W0 w3 := (hB0.trans bl).trans (b3.mono (by omega))
        obtain ⟨a9, c9, w9, run9, hO9, n9, b9⟩ := hap1 w3 _ _ hOx hRx hsx
        have hS9 : w9.cell? ⟨w.heap.size, 0, none⟩ = some (.int .i64 g) ∧ w9.cell? ⟨w.heap.size, 1, none⟩ = some (.int .i64 r) ∧ w9.cell? ⟨w.heap.size, 2, none⟩ = some (.string l) ∧ w9.cell? ⟨w.heap.size, 3, none⟩ = some (.int .i64 n) ∧ w9.cell? ⟨w.heap.size, 4, none⟩ = some (.int .i64 x) := ⟨(b9.cell (by simp)).trans hHeld.1, (b9.cell (by simp)).trans hHeld.2.1, (b9.cell (by simp)).trans hHeld.2.2.1, (b9.cell (by simp)).trans hHeld.2.2.2.1, (b9.cell (by simp)).trans hHeld.2.2.2.2⟩
        refine turn_op (i := 9) (d := 13) (OP := Op.call { callee := Callee.builtin Builtin.append, args := #[Operand.tmp 6, Operand.tmp 12], argTypes := #[115, 115] }) (T := 115) (v := .slice a9 P1.length c9) (w' := w9) rfl rfl rfl rfl (by kernel_rfl) (by rfl) (exec_append rfl rfl run9) hS9 ?_
        replace hHeld := hS9
        try simp only [Act.put, List.setIfInBounds_toArray, List.set_cons_zero, List.set_cons_succ]
        refine take_op (i := 10) (d := 3) (OP := Op.assign (Operand.tmp 13)) (T := 115) (v := ?vy9x) rfl rfl rfl rfl (by kernel_rfl) (by kernel_rfl) (by kernel_rfl) (fun _ _ _ h => h) (by rfl) ?hy9x hHeld ?ry9x
        case hy9x => (intro w' hSw; (try dsimp only at hSw); go_simp <;> with_reducible rfl)
        try simp only [Act.put, List.setIfInBounds_toArray, List.set_cons_zero, List.set_cons_succ]
        refine wpAnyH_done (by kernel_rfl) ?_ _
        go_wp2
        go_meet
        exact ⟨a9, c9, rfl, hide ⟨hO9, hbx.trans b9⟩⟩
  case rest =>
    obtain ⟨a9, c9, rfl, HO⟩ := hcut
    obtain ⟨hO9, hB9⟩ := HO.out
    have z9 : w.heap.size + 1 ≤ wc.heap.size := Nat.le_trans hs0 hB9.size
    obtain ⟨y0, y1, y2, y3, y4, _, _, _, _, _⟩ := blk5 (HK.out _ hB9)
    obtain ⟨a4, c4, w4, run4, hO4, m4, b4⟩ := hap2 wc _ hO9 z9
    have z4 := Nat.le_trans z9 b4.size
    obtain ⟨a5, c5, w5, run5, hO5, m5, b5⟩ := hap3 (w4.alloc (.cells #[.int .u8 0] 5)) _ ⟨w4.heap.size, 0, none⟩ (hO4.alloc _) (rd_one w4 0) (by simp; omega)
    have z5 : w.heap.size + 1 ≤ w5.heap.size := by have := b5.size; simp at this; omega
    have hB5 : Below (w.heap.size + 1) W0 w5 := ((hB9.trans b4).alloc z4 _).trans b5
    obtain ⟨v0, v1, v2, v3, v4, _, _, _, _, _⟩ := blk5 (HK.out _ hB5)
    clear hO9 hO4 b4 b5 HO hB9
    go_wp2_with (first | (at_builtin; first | refine wpList_app2 rfl (.tmp 14) (.tmp 18) 115 9 115 rfl rfl rfl rfl run4 ?_ | refine wpList_app2 rfl (.tmp 20) (.tmp 21) 115 115 115 rfl rfl rfl rfl run5 ?_ | refine wpList_app2 rfl (.tmp 23) (.tmp 27) 115 115 115 rfl rfl rfl rfl run7 ?_ | refine wpList_app2 rfl (.tmp 29) (.tmp 33) 115 115 115 rfl rfl rfl rfl run8 ?_) | (go_at_call 167; refine (hn _).mono ?_; rintro e w6 ⟨a6, c6, rfl, hO6, m6, b6⟩; have z6 := Nat.le_trans z5 b6.size; have hB6 := hB5.trans (b6.mono z5); obtain ⟨a7, c7, w7, run7, hO7, m7, b7⟩ := hap4 w6 _ a6 c6 (hO5.below b6) hO6.rd m6 z6; clear hO6 hO5; have z7 := Nat.le_trans z6 b7.size; have hB7 := hB6.trans b7; obtain ⟨t0, t1, t2, t3, t4, _, _, _, _, _⟩ := blk5 (HK.out _ hB7); clear v0 v1 v2 v3 v4 hB6 b6 b7; obtain ⟨a8, c8, w8, run8, hO8, m8, b8⟩ := hap5 (w7.alloc (.cells #[.int .u8 x] 5)) _ ⟨w7.heap.size, 0, none⟩ (hO7.alloc _) (rd_one w7 x) (by simp; omega); have hB8 : Below (w.heap.size + 1) W0 w8 := (hB7.alloc z7 _).trans b8; have hcv := conv_rd (n := P5.length) (cap := c8) hO8.rd rfl; rw [hkey'] at hcv; clear hO7 hO8 b8 hB7))
    go_ret
    exact ⟨rfl, hBW0.trans (hB8.mono (by omega))⟩
end Go.Proofs.YtkeldhohilmdcaaGreat
namespace Go.Proofs.YtkeldhohilmdcaaGreat
open Go.RowKit Go.Shelf
set_option linter.unusedSimpArgs false

theorem exec_alloc27 {ev : Operand → Value} {T : TypeId} {w : World} :
    (execOp ev { dst := none, op := .alloc 43, type := T, pos := "", after := #[], guard := none }).run Tryz.prog w = .ok (.value (.pointer (some ⟨w.heap.size, 0, none⟩))) (w.alloc (.cells #[.int .i64 0, .int .i64 0, .string ⟨#[]⟩, .int .i64 0, .int .i64 0] 43)) := by
  unfold execOp
  go_simp
theorem setCell_size (w : World) (a : Addr) (v : Value) : (w.setCell a v).heap.size = w.heap.size := by simp [World.setCell]
theorem ba_ext {a b : ByteArray} (h : a.data.toList = b.data.toList) : a = b := by
  apply ByteArray.ext; exact Array.toList_inj.1 h
theorem ext_mid (s : ByteArray) (a i : Nat) : s.extract a i = ⟨((s.data.toList.drop a).take (i - a)).toArray⟩ := by
  apply ByteArray.ext
  apply Array.toList_inj.1
  simp [ByteArray.data_extract, List.drop_take]
set_option maxHeartbeats 1000000 in
set_option maxRecDepth 100000 in
theorem back_any (s : ByteArray) (w : World) (h8 : 8 ≤ s.size) (hs : s.size ≤ 9223372036854775807) : Calls Tryz.prog 137 #[.string s] w fun e w' => e = .returned (.int .i64 (ofHi (ints (s.data.toList.take 8)))) ∧ Below w.heap.size w w' := by
  obtain ⟨F, hF⟩ : ∃ F : Nat → Int, F = fun k => ofHi (ints (s.data.toList.take k)) := ⟨_, rfl⟩
  have hT : ∀ (k : Nat) (h : k < s.size), F (k + 1) = stepH (F k) ((s[k]'h).toNat : Int) := fun k h => by
    rw [hF]
    show ofHi (ints (s.data.toList.take (k + 1))) = stepH (ofHi (ints (s.data.toList.take k))) _
    have hl : k < s.data.toList.length := by rw [← Lib.size_eq]; exact h
    rw [List.take_succ_eq_append_getElem hl, ints_append]
    unfold ofHi
    rw [List.foldl_append]
    rfl
  have hF0 : F 0 = 0 := by rw [hF]; rfl
  have hF8 : F 8 = ofHi (ints (s.data.toList.take 8)) := by rw [hF]
  have HF := hide (And.intro hT (And.intro hF0 hF8))
  generalize ofHi (ints (s.data.toList.take 8)) = R at HF ⊢
  clear hF hT hF0 hF8
  go_enter Tryz.func137, Tryz.ntmps137
  go_wp2
  go_loopw [3, 4] (fun v3 v4 wr => ∃ k : Nat, k ≤ 8 ∧ v3 = .int .i64 (F k) ∧ v4 = .int .i64 (k : Int) ∧ wr = w) (fun _ v4 _ => (8 - intOf v4).toNat)
  case atStart => exact ⟨0, by omega, by rw [HF.out.2.1], rfl, rfl⟩
  case round =>
    obtain ⟨k, hk, rfl, rfl, rfl⟩ := hrel
    by_cases hc : k < 8
    · have z1 : (k : Int) < 8 := by omega
      obtain ⟨X, hX, x0, x1, ix⟩ := at_string s k (by omega)
      have HN := hide (HF.out.1 k (by omega))
      rw [← hX] at HN
      clear hX
      have wb : IntKind.i64.wrap X = X := by rw [IntKind.wrap_i64]; omega
      go_wp2
      exact ⟨⟨k + 1, by omega, by rw [HN.out]; rfl, by simp, trivial⟩, by simp only [intOf]; omega⟩
    · have z1 : ¬ (k : Int) < 8 := by omega
      go_wp2
      go_ret
      obtain rfl : k = 8 := by omega
      exact ⟨by rw [← HF.out.2.2]; rfl, Below.refl _ _⟩
set_option maxHeartbeats 4000000 in
set_option maxRecDepth 100000 in
theorem refOfKey_any (s : ByteArray) (w : World) (hs : s.size ≤ 9223372036854775807) : Calls Tryz.prog 93 #[.string s] w fun e w' => e = .returned (.tuple #[sv (kG s) (kR s) (kL s) (kN s) (kX s), .int .i64 (if okV s then 0 else 4)]) ∧ Below w.heap.size w w' := by
  have hb := below_new w (.cells #[.int .i64 0, .int .i64 0, .string ⟨#[]⟩, .int .i64 0, .int .i64 0] 43)
  have hnw := heap_alloc_new w (.cells #[.int .i64 0, .int .i64 0, .string ⟨#[]⟩, .int .i64 0, .int .i64 0] 43)
  by_cases h19 : s.size < 19
  · have hV : okV s = false := by unfold okV; rw [show decide (19 ≤ s.size) = false by simp; omega, Bool.false_and]
    unfold kG kR kL kN kX
    rw [hV]
    have z1 : (s.size : Int) < 19 := by omega
    obtain ⟨y0, y1, y2, y3, y4, f0, f1, f2, f3, f4⟩ := blk5 hnw
    go_enter Tryz.func93, Tryz.ntmps93
    go_wp2
    refine ret_row_tmp w.heap.size [.int .i64 0, .int .i64 0, .string ⟨#[]⟩, .int .i64 0, .int .i64 0] rfl rfl rfl Tryz.underlying43 rfl (by kernel_rfl) (t := 43) (fr := (0, 0)) ?_ rfl ?_
    · first | exact hnw | exact set5 hnw
    · first | exact ⟨rfl, hb⟩ | exact ⟨rfl, bel5 (Nat.le_refl _) hb⟩
  · obtain ⟨A, hA⟩ : ∃ A : Nat, A = s.size - 10 := ⟨_, rfl⟩
    obtain ⟨B9, hB9⟩ : ∃ B9 : Nat, B9 = s.size - 9 := ⟨_, rfl⟩
    obtain ⟨T, hT⟩ : ∃ T : Nat, T = s.size - 1 := ⟨_, rfl⟩
    have hg : ∀ W, Calls Tryz.prog 137 #[.string s] W fun e w' => e = .returned (.int .i64 (okG s)) ∧ Below W.heap.size W w' := fun W => by
      have := back_any s W (by omega) hs
      rw [show ofHi (ints (s.data.toList.take 8)) = okG s by unfold okG; rw [ext_take]] at this
      exact this
    have hxs : (s.extract B9 s.size).size = 9 := by rw [ByteArray.size_extract]; omega
    have hn : ∀ W, Calls Tryz.prog 137 #[.string (s.extract B9 s.size)] W fun e w' => e = .returned (.int .i64 (okN s)) ∧ Below W.heap.size W w' := fun W => by
      have := back_any (s.extract B9 s.size) W (by omega) (by omega)
      rw [show ofHi (ints ((s.extract B9 s.size).data.toList.take 8)) = okN s by unfold okN; rw [ext_mid, ext_mid, hB9]; simp only [List.take_take]; congr 3; omega] at this
      exact this
    obtain ⟨X8, hX8, u0, u1, ix8⟩ := at_string s 8 (by omega)
    obtain ⟨XT, hXT, v0, v1, ixT⟩ := at_string s T (by omega)
    have ix8' : ∀ W, (Instr.index 9 (.string s) (.int .i64 8)).run Tryz.prog W = .ok (.int .u8 X8) W := ix8
    rw [at_getD] at hX8 hXT
    have e1 : X8 = okR s := hX8
    have e2 : XT = okX s := by rw [hXT, hT]; rfl
    have e3 : s.extract 9 A = okL s := by rw [hA]; rfl
    have hla : (s.extract 9 A).size ≤ s.size := ext_size _ _ _ (by omega)
    have hok : okV s = (stampV (okG s) X8 (s.extract 9 A) (okN s) XT && decide (keyS (okG s) X8 (s.extract 9 A) (okN s) XT = s)) := by
      unfold okV
      rw [e1, e2, e3, show decide (19 ≤ s.size) = true by simp; omega, Bool.true_and]
    obtain ⟨PV, hPV⟩ : ∃ PV, PV = okV s := ⟨_, rfl⟩
    obtain ⟨E, hEe⟩ : ∃ E : Int, E = (if okV s then 0 else 4) := ⟨_, rfl⟩
    have hT1 : PV = true → kG s = okG s ∧ kR s = X8 ∧ kL s = s.extract 9 A ∧ kN s = okN s ∧ kX s = XT ∧ E = 0 := fun h => by
      rw [h] at hPV
      unfold kG kR kL kN kX
      rw [hEe, ← hPV, e1, e2, e3]; exact ⟨rfl, rfl, rfl, rfl, rfl, rfl⟩
    have hF1 : PV = false → kG s = 0 ∧ kR s = 0 ∧ kL s = ⟨#[]⟩ ∧ kN s = 0 ∧ kX s = 0 ∧ E = 4 := fun h => by
      rw [h] at hPV
      unfold kG kR kL kN kX
      rw [hEe, ← hPV]; exact ⟨rfl, rfl, rfl, rfl, rfl, rfl⟩
    rw [← hEe]
    rw [← hPV] at hok
    have hv : ∀ W, Calls Tryz.prog 84 #[sv (okG s) X8 (s.extract 9 A) (okN s) XT] W fun e w' => e = .returned (.bool (stampV (okG s) X8 (s.extract 9 A) (okN s) XT)) ∧ Below W.heap.size W w' := fun W => refStamp_any _ _ _ _ _ W (by omega)
    have ht : stampV (okG s) X8 (s.extract 9 A) (okN s) XT = true → ∀ W, Calls Tryz.prog 138 #[sv (okG s) X8 (s.extract 9 A) (okN s) XT] W fun e w' => e = .returned (.string (keyS (okG s) X8 (s.extract 9 A) (okN s) XT)) ∧ Below W.heap.size W w' := fun hv W => by
      have := S_bounds hv
      exact refKey_any _ _ _ _ _ W (by omega) (by omega) (by omega) (by omega) (by omega) (by omega) (by omega) (by omega) (by omega)
    generalize keyS (okG s) X8 (s.extract 9 A) (okN s) XT = TT at ht hok
    generalize stampV (okG s) X8 (s.extract 9 A) (okN s) XT = VV at hv ht hok
    generalize kG s = G' at hT1 hF1 ⊢
    generalize kR s = R' at hT1 hF1 ⊢
    generalize kL s = L' at hT1 hF1 ⊢
    generalize kN s = N' at hT1 hF1 ⊢
    generalize kX s = X' at hT1 hF1 ⊢
    clear e1 e2 e3 hPV hEe hX8 hXT
    generalize okG s = OG at hg hv ht hT1
    generalize okN s = ON at hn hv ht hT1
    have HV := hide (And.intro hok (And.intro hT1 hF1))
    clear hok hT1 hF1
    have z1 : ¬ (s.size : Int) < 19 := by omega
    have q1 : (s.size : Int) - 10 = (A : Int) := by omega
    have q2 : (s.size : Int) - 1 = (T : Int) := by omega
    have q3 : (s.size : Int) - 9 = (B9 : Int) := by omega
    have a1 : 9 ≤ A := by omega
    have a2 : A ≤ s.size := by omega
    have a3 : B9 ≤ s.size := by omega
    have a4 : (9 : Int) ≤ (A : Int) := by omega
    have a5 : (A : Int) ≤ (s.size : Int) := by omega
    have a6 : (B9 : Int) ≤ (s.size : Int) := by omega
    have wx : IntKind.i64.wrap X8 = X8 := by rw [IntKind.wrap_i64]; omega
    have wt : IntKind.i64.wrap XT = XT := by rw [IntKind.wrap_i64]; omega
    have wA : IntKind.i64.wrap (A : Int) = (A : Int) := by rw [IntKind.wrap_i64]; omega
    have wB : IntKind.i64.wrap (B9 : Int) = (B9 : Int) := by rw [IntKind.wrap_i64]; omega
    have wT : IntKind.i64.wrap (T : Int) = (T : Int) := by rw [IntKind.wrap_i64]; omega
    have hs1 : w.heap.size + 1 = (w.alloc (.cells #[.int .i64 0, .int .i64 0, .string ⟨#[]⟩, .int .i64 0, .int .i64 0] 43)).heap.size := by simp
    clear hA hB9 hT hxs hla
    go_enter Tryz.func93, Tryz.ntmps93
    go_upto_region 4 with fail
    generalize (w.alloc (.cells #[.int .i64 0, .int .i64 0, .string ⟨#[]⟩, .int .i64 0, .int .i64 0] 43)) = W0 at hb hnw hs1 ⊢
    have hk : ∀ W, Below (w.heap.size + 1) W0 W → W.heap[w.heap.size]? = some (.cells #[.int .i64 0, .int .i64 0, .string ⟨#[]⟩, .int .i64 0, .int .i64 0] 43) := fun W h => (h.block _ (by omega)).trans hnw
    have hD : Below w.heap.size w W0.drew := hb.drew
    have hQ : Below (w.heap.size + 1) W0 W0.drew := (Below.refl _ W0).drew
    have hz : w.heap.size + 1 ≤ W0.drew.heap.size := by show _ ≤ W0.heap.size; omega
    go_cut [5] (fun v5 wc => ∃ Pn, v5 = .pointer (some ⟨Pn, 0, none⟩) ∧ Hid (wc.heap[Pn]? = some (.cells #[.int .i64 OG, .int .i64 X8, .string (s.extract 9 A), .int .i64 ON, .int .i64 XT] 43 (0, 0)) ∧ Below w.heap.size w wc ∧ Below (w.heap.size + 1) W0 wc ∧ Pn < wc.heap.size))
    case first =>
      as_aux_lemma =>
        refine wp_region_held_drew (S := (fun _ => True)) (by kernel_rfl) trivial (fun hHeld => ?_)
        try dsimp only at hHeld
        generalize W0.drew = W1 at hD hQ hz ⊢
        refine take_op (i := 0) (d := 12) (OP := Op.move (Operand.tmp 0)) (T := 9) (v := ?vy1x) rfl rfl rfl rfl (by kernel_rfl) (by kernel_rfl) (by kernel_rfl) (fun _ _ _ h => h) (by rfl) ?hy1x hHeld ?ry1x
        case hy1x => (intro w' hSw; (try dsimp only at hSw); go_simp <;> with_reducible rfl)
        try simp only [Act.put, List.setIfInBounds_toArray, List.set_cons_zero, List.set_cons_succ]
        refine take_op (i := 2) (d := 14) (OP := Op.move (Operand.tmp 0)) (T := 9) (v := ?vy2x) rfl rfl rfl rfl (by kernel_rfl) (by kernel_rfl) (by kernel_rfl) (fun _ _ _ h => h) (by rfl) ?hy2x hHeld ?ry2x
        case hy2x => (intro w' hSw; (try dsimp only at hSw); go_simp <;> with_reducible rfl)
        try simp only [Act.put, List.setIfInBounds_toArray, List.set_cons_zero, List.set_cons_succ]
        refine take_op (i := 3) (d := 15) (OP := Op.index 9 (Operand.tmp 14) (Operand.const (Value.int IntKind.i64 8))) (T := 5) (v := ?vy3x) rfl rfl rfl rfl (by kernel_rfl) (by kernel_rfl) (by kernel_rfl) (fun _ _ _ h => h) (by rfl) ?hy3x hHeld ?ry3x
        case hy3x => (intro w' hSw; (try dsimp only at hSw); go_simp <;> with_reducible rfl)
        try simp only [Act.put, List.setIfInBounds_toArray, List.set_cons_zero, List.set_cons_succ]
        refine take_op (i := 4) (d := 16) (OP := Op.convert 5 3 (Operand.tmp 15)) (T := 3) (v := ?vy4x) rfl rfl rfl rfl (by kernel_rfl) (by kernel_rfl) (by kernel_rfl) (fun _ _ _ h => h) (by rfl) ?hy4x hHeld ?ry4x
        case hy4x => (intro w' hSw; (try dsimp only at hSw); go_simp <;> with_reducible rfl)
        try simp only [Act.put, List.setIfInBounds_toArray, List.set_cons_zero, List.set_cons_succ]
        refine take_op (i := 5) (d := 17) (OP := Op.move (Operand.tmp 0)) (T := 9) (v := ?vy5x) rfl rfl rfl rfl (by kernel_rfl) (by kernel_rfl) (by kernel_rfl) (fun _ _ _ h => h) (by rfl) ?hy5x hHeld ?ry5x
        case hy5x => (intro w' hSw; (try dsimp only at hSw); go_simp <;> with_reducible rfl)
        try simp only [Act.put, List.setIfInBounds_toArray, List.set_cons_zero, List.set_cons_succ]
        refine take_op (i := 6) (d := 18) (OP := Op.move (Operand.tmp 4)) (T := 3) (v := ?vy6x) rfl rfl rfl rfl (by kernel_rfl) (by kernel_rfl) (by kernel_rfl) (fun _ _ _ h => h) (by rfl) ?hy6x hHeld ?ry6x
        case hy6x => (intro w' hSw; (try dsimp only at hSw); go_simp <;> with_reducible rfl)
        try simp only [Act.put, List.setIfInBounds_toArray, List.set_cons_zero, List.set_cons_succ]
        refine take_op (i := 7) (d := 19) (OP := Op.binOp BinOp.sub 3 (Operand.tmp 18) (Operand.const (Value.int IntKind.i64 10)) 3) (T := 3) (v := ?vy7x) rfl rfl rfl rfl (by kernel_rfl) (by kernel_rfl) (by kernel_rfl) (fun _ _ _ h => h) (by rfl) ?hy7x hHeld ?ry7x
        case hy7x => (intro w' hSw; (try dsimp only at hSw); go_simp <;> with_reducible rfl)
        try simp only [Act.put, List.setIfInBounds_toArray, List.set_cons_zero, List.set_cons_succ]
        refine take_op (i := 8) (d := 20) (OP := Op.slice 9 (Operand.tmp 17) (some (Operand.const (Value.int IntKind.i64 9))) (some (Operand.tmp 19)) none) (T := 9) (v := ?vy8x) rfl rfl rfl rfl (by kernel_rfl) (by kernel_rfl) (by kernel_rfl) (fun _ _ _ h => h) (by rfl) ?hy8x hHeld ?ry8x
        case hy8x => (intro w' hSw; (try dsimp only at hSw); go_simp <;> with_reducible rfl)
        try simp only [Act.put, List.setIfInBounds_toArray, List.set_cons_zero, List.set_cons_succ]
        refine take_op (i := 9) (d := 21) (OP := Op.build 39 #[(0, Operand.tmp 16), (1, Operand.tmp 20)]) (T := 39) (v := ?vy9x) rfl rfl rfl rfl (by kernel_rfl) (by kernel_rfl) (by kernel_rfl) (fun _ _ _ h => h) (by rfl) ?hy9x hHeld ?ry9x
        case hy9x => (intro w' hSw; (try dsimp only at hSw); go_simp <;> with_reducible rfl)
        try simp only [Act.put, List.setIfInBounds_toArray, List.set_cons_zero, List.set_cons_succ]
        refine take_op (i := 10) (d := 22) (OP := Op.move (Operand.tmp 0)) (T := 9) (v := ?vy10x) rfl rfl rfl rfl (by kernel_rfl) (by kernel_rfl) (by kernel_rfl) (fun _ _ _ h => h) (by rfl) ?hy10x hHeld ?ry10x
        case hy10x => (intro w' hSw; (try dsimp only at hSw); go_simp <;> with_reducible rfl)
        try simp only [Act.put, List.setIfInBounds_toArray, List.set_cons_zero, List.set_cons_succ]
        refine take_op (i := 11) (d := 23) (OP := Op.move (Operand.tmp 4)) (T := 3) (v := ?vy11x) rfl rfl rfl rfl (by kernel_rfl) (by kernel_rfl) (by kernel_rfl) (fun _ _ _ h => h) (by rfl) ?hy11x hHeld ?ry11x
        case hy11x => (intro w' hSw; (try dsimp only at hSw); go_simp <;> with_reducible rfl)
        try simp only [Act.put, List.setIfInBounds_toArray, List.set_cons_zero, List.set_cons_succ]
        refine take_op (i := 12) (d := 24) (OP := Op.binOp BinOp.sub 3 (Operand.tmp 23) (Operand.const (Value.int IntKind.i64 9)) 3) (T := 3) (v := ?vy12x) rfl rfl rfl rfl (by kernel_rfl) (by kernel_rfl) (by kernel_rfl) (fun _ _ _ h => h) (by rfl) ?hy12x hHeld ?ry12x
        case hy12x => (intro w' hSw; (try dsimp only at hSw); go_simp <;> with_reducible rfl)
        try simp only [Act.put, List.setIfInBounds_toArray, List.set_cons_zero, List.set_cons_succ]
        refine take_op (i := 13) (d := 25) (OP := Op.slice 9 (Operand.tmp 22) (some (Operand.tmp 24)) none none) (T := 9) (v := ?vy13x) rfl rfl rfl rfl (by kernel_rfl) (by kernel_rfl) (by kernel_rfl) (fun _ _ _ h => h) (by rfl) ?hy13x hHeld ?ry13x
        case hy13x => (intro w' hSw; (try dsimp only at hSw); go_simp <;> with_reducible rfl)
        try simp only [Act.put, List.setIfInBounds_toArray, List.set_cons_zero, List.set_cons_succ]
        refine take_op (i := 16) (d := 28) (OP := Op.move (Operand.tmp 0)) (T := 9) (v := ?vy14x) rfl rfl rfl rfl (by kernel_rfl) (by kernel_rfl) (by kernel_rfl) (fun _ _ _ h => h) (by rfl) ?hy14x hHeld ?ry14x
        case hy14x => (intro w' hSw; (try dsimp only at hSw); go_simp <;> with_reducible rfl)
        try simp only [Act.put, List.setIfInBounds_toArray, List.set_cons_zero, List.set_cons_succ]
        refine take_op (i := 17) (d := 29) (OP := Op.move (Operand.tmp 4)) (T := 3) (v := ?vy15x) rfl rfl rfl rfl (by kernel_rfl) (by kernel_rfl) (by kernel_rfl) (fun _ _ _ h => h) (by rfl) ?hy15x hHeld ?ry15x
        case hy15x => (intro w' hSw; (try dsimp only at hSw); go_simp <;> with_reducible rfl)
        try simp only [Act.put, List.setIfInBounds_toArray, List.set_cons_zero, List.set_cons_succ]
        refine take_op (i := 18) (d := 30) (OP := Op.binOp BinOp.sub 3 (Operand.tmp 29) (Operand.const (Value.int IntKind.i64 1)) 3) (T := 3) (v := ?vy16x) rfl rfl rfl rfl (by kernel_rfl) (by kernel_rfl) (by kernel_rfl) (fun _ _ _ h => h) (by rfl) ?hy16x hHeld ?ry16x
        case hy16x => (intro w' hSw; (try dsimp only at hSw); go_simp <;> with_reducible rfl)
        try simp only [Act.put, List.setIfInBounds_toArray, List.set_cons_zero, List.set_cons_succ]
        refine take_op (i := 19) (d := 31) (OP := Op.index 9 (Operand.tmp 28) (Operand.tmp 30)) (T := 5) (v := ?vy17x) rfl rfl rfl rfl (by kernel_rfl) (by kernel_rfl) (by kernel_rfl) (fun _ _ _ h => h) (by rfl) ?hy17x hHeld ?ry17x
        case hy17x => (intro w' hSw; (try dsimp only at hSw); go_simp <;> with_reducible rfl)
        try simp only [Act.put, List.setIfInBounds_toArray, List.set_cons_zero, List.set_cons_succ]
        refine take_op (i := 20) (d := 32) (OP := Op.convert 5 3 (Operand.tmp 31)) (T := 3) (v := ?vy18x) rfl rfl rfl rfl (by kernel_rfl) (by kernel_rfl) (by kernel_rfl) (fun _ _ _ h => h) (by rfl) ?hy18x hHeld ?ry18x
        case hy18x => (intro w' hSw; (try dsimp only at hSw); go_simp <;> with_reducible rfl)
        try simp only [Act.put, List.setIfInBounds_toArray, List.set_cons_zero, List.set_cons_succ]
        refine call_turn_op (i := 1) (di := 13) (OPi := Op.call { callee := Callee.value (Operand.func 137), args := #[Operand.tmp 12], argTypes := #[9] }) (Ti := 2) (j := 22) (dj := 5) (OPj := Op.alloc 43) (Tj := 0) (f := 137) (args := #[.string s]) (u := .pointer (some ⟨W1.heap.size, 0, none⟩)) (w' := W1.alloc (.cells #[.int .i64 0, .int .i64 0, .string ⟨#[]⟩, .int .i64 0, .int .i64 0] 43)) rfl rfl rfl rfl rfl rfl rfl rfl (by kernel_rfl) (by rfl) (by rfl) (by go_simp) exec_alloc27 trivial ?_ ?_
        · refine (hg _).mono ?_
          rintro e v1 ⟨rfl, bb⟩
          replace hD := hD.trans (bb.mono hD.size)
          replace hQ := hQ.trans (bb.mono hz)
          replace hz := Nat.le_trans hz bb.size
          clear bb
          refine ⟨_, rfl, trivial, ?_⟩
          try simp only [Act.put, List.setIfInBounds_toArray, List.set_cons_zero, List.set_cons_succ]
          refine call_turn_op (i := 14) (di := 26) (OPi := Op.call { callee := Callee.value (Operand.func 137), args := #[Operand.tmp 25], argTypes := #[9] }) (Ti := 2) (j := 22) (dj := 5) (OPj := Op.alloc 43) (Tj := 0) (f := 137) (args := #[.string (s.extract B9 s.size)]) (u := .pointer (some ⟨v1.heap.size, 0, none⟩)) (w' := v1.alloc (.cells #[.int .i64 0, .int .i64 0, .string ⟨#[]⟩, .int .i64 0, .int .i64 0] 43)) rfl rfl rfl rfl rfl rfl rfl rfl (by kernel_rfl) (by rfl) (by rfl) (by go_simp) exec_alloc27 trivial ?_ ?_
          · refine (hn _).mono ?_
            rintro e v2 ⟨rfl, bb⟩
            replace hD := hD.trans (bb.mono hD.size)
            replace hQ := hQ.trans (bb.mono hz)
            replace hz := Nat.le_trans hz bb.size
            clear bb
            refine ⟨_, rfl, trivial, ?_⟩
            try simp only [Act.put, List.setIfInBounds_toArray, List.set_cons_zero, List.set_cons_succ]
            refine take_op (i := 15) (d := 27) (OP := Op.build 41 #[(0, Operand.tmp 21), (1, Operand.tmp 26)]) (T := 41) (v := ?vy19x) rfl rfl rfl rfl (by kernel_rfl) (by kernel_rfl) (by kernel_rfl) (fun _ _ _ h => h) (by rfl) ?hy19x hHeld ?ry19x
            case hy19x => (intro w' hSw; (try dsimp only at hSw); go_simp <;> with_reducible rfl)
            try simp only [Act.put, List.setIfInBounds_toArray, List.set_cons_zero, List.set_cons_succ]
            refine take_op (i := 21) (d := 33) (OP := Op.build 43 #[(0, Operand.tmp 13), (1, Operand.tmp 27), (2, Operand.tmp 32)]) (T := 43) (v := ?vy20x) rfl rfl rfl rfl (by kernel_rfl) (by kernel_rfl) (by kernel_rfl) (fun _ _ _ h => h) (by rfl) ?hy20x hHeld ?ry20x
            case hy20x => (intro w' hSw; (try dsimp only at hSw); go_simp <;> with_reducible rfl)
            try simp only [Act.put, List.setIfInBounds_toArray, List.set_cons_zero, List.set_cons_succ]
            refine turn_op (i := 22) (d := 5) (OP := Op.alloc 43) (T := 0) (v := .pointer (some ⟨v2.heap.size, 0, none⟩)) (w' := v2.alloc (.cells #[.int .i64 0, .int .i64 0, .string ⟨#[]⟩, .int .i64 0, .int .i64 0] 43)) rfl rfl rfl rfl (by kernel_rfl) (by rfl) (exec_alloc27) trivial ?_
            replace hHeld := trivial
            try simp only [Act.put, List.setIfInBounds_toArray, List.set_cons_zero, List.set_cons_succ]
            have mP := heap_alloc_new v2 (.cells #[.int .i64 0, .int .i64 0, .string ⟨#[]⟩, .int .i64 0, .int .i64 0] 43)
            replace hD := hD.alloc hD.size (.cells #[.int .i64 0, .int .i64 0, .string ⟨#[]⟩, .int .i64 0, .int .i64 0] 43)
            replace hQ := hQ.alloc hz (.cells #[.int .i64 0, .int .i64 0, .string ⟨#[]⟩, .int .i64 0, .int .i64 0] 43)
            have hp : w.heap.size + 1 ≤ v2.heap.size := hz
            have hpz : v2.heap.size < (v2.alloc (.cells #[.int .i64 0, .int .i64 0, .string ⟨#[]⟩, .int .i64 0, .int .i64 0] 43)).heap.size := by simp
            replace hz : w.heap.size + 1 ≤ (v2.alloc (.cells #[.int .i64 0, .int .i64 0, .string ⟨#[]⟩, .int .i64 0, .int .i64 0] 43)).heap.size := by simp; omega
            generalize v2.heap.size = Pn at mP hp hpz ⊢
            generalize v2.alloc (.cells #[.int .i64 0, .int .i64 0, .string ⟨#[]⟩, .int .i64 0, .int .i64 0] 43) = x3 at mP hD hQ hz hpz ⊢
            obtain ⟨z0, z1, z2, z3, z4, zf0, zf1, zf2, zf3, zf4⟩ := blk5 mP
            refine skip_op (i := 23) (OP := Op.store 43 (Operand.tmp 5) (Operand.tmp 33)) (T := 0) (w' := (((((x3.setCell ⟨Pn, 0, none⟩ (.int .i64 OG)).setCell ⟨Pn, 1, none⟩ (.int .i64 X8)).setCell ⟨Pn, 2, none⟩ (.string (s.extract 9 A))).setCell ⟨Pn, 3, none⟩ (.int .i64 ON)).setCell ⟨Pn, 4, none⟩ (.int .i64 XT))) rfl rfl rfl rfl (by kernel_rfl) (by rfl) (by go_simp) ⟨trivial, ?_⟩
            refine wpAnyH_done (by kernel_rfl) ?_ _
            go_wp2
            go_meet
            exact ⟨Pn, rfl, hide ⟨set5 mP, bel5 (by omega) hD, bel5 hp hQ, by simp only [setCell_size]; omega⟩⟩
          · try simp only [Act.put, List.setIfInBounds_toArray, List.set_cons_zero, List.set_cons_succ]
            have mP := heap_alloc_new v1 (.cells #[.int .i64 0, .int .i64 0, .string ⟨#[]⟩, .int .i64 0, .int .i64 0] 43)
            replace hD := hD.alloc hD.size (.cells #[.int .i64 0, .int .i64 0, .string ⟨#[]⟩, .int .i64 0, .int .i64 0] 43)
            replace hQ := hQ.alloc hz (.cells #[.int .i64 0, .int .i64 0, .string ⟨#[]⟩, .int .i64 0, .int .i64 0] 43)
            have hp : w.heap.size + 1 ≤ v1.heap.size := hz
            have hpz : v1.heap.size < (v1.alloc (.cells #[.int .i64 0, .int .i64 0, .string ⟨#[]⟩, .int .i64 0, .int .i64 0] 43)).heap.size := by simp
            replace hz : w.heap.size + 1 ≤ (v1.alloc (.cells #[.int .i64 0, .int .i64 0, .string ⟨#[]⟩, .int .i64 0, .int .i64 0] 43)).heap.size := by simp; omega
            generalize v1.heap.size = Pn at mP hp hpz ⊢
            generalize v1.alloc (.cells #[.int .i64 0, .int .i64 0, .string ⟨#[]⟩, .int .i64 0, .int .i64 0] 43) = x2 at mP hD hQ hz hpz ⊢
            refine call_op (i := 14) (d := 26) (OP := Op.call { callee := Callee.value (Operand.func 137), args := #[Operand.tmp 25], argTypes := #[9] }) (T := 2) (f := 137) (args := #[.string (s.extract B9 s.size)]) rfl rfl rfl rfl (by kernel_rfl) (by rfl) (by go_simp) ?_
            refine (hn _).mono ?_
            rintro e v5 ⟨rfl, bb⟩
            replace hD := hD.trans (bb.mono hD.size)
            replace hQ := hQ.trans (bb.mono hz)
            replace hz := Nat.le_trans hz bb.size
            replace mP := (bb.block _ hpz).trans mP
            replace hpz := Nat.lt_of_lt_of_le hpz bb.size
            clear bb
            refine ⟨_, rfl, trivial, ?_⟩
            replace hHeld := trivial
            try simp only [Act.put, List.setIfInBounds_toArray, List.set_cons_zero, List.set_cons_succ]
            refine take_op (i := 15) (d := 27) (OP := Op.build 41 #[(0, Operand.tmp 21), (1, Operand.tmp 26)]) (T := 41) (v := ?vy21x) rfl rfl rfl rfl (by kernel_rfl) (by kernel_rfl) (by kernel_rfl) (fun _ _ _ h => h) (by rfl) ?hy21x hHeld ?ry21x
            case hy21x => (intro w' hSw; (try dsimp only at hSw); go_simp <;> with_reducible rfl)
            try simp only [Act.put, List.setIfInBounds_toArray, List.set_cons_zero, List.set_cons_succ]
            refine take_op (i := 21) (d := 33) (OP := Op.build 43 #[(0, Operand.tmp 13), (1, Operand.tmp 27), (2, Operand.tmp 32)]) (T := 43) (v := ?vy22x) rfl rfl rfl rfl (by kernel_rfl) (by kernel_rfl) (by kernel_rfl) (fun _ _ _ h => h) (by rfl) ?hy22x hHeld ?ry22x
            case hy22x => (intro w' hSw; (try dsimp only at hSw); go_simp <;> with_reducible rfl)
            try simp only [Act.put, List.setIfInBounds_toArray, List.set_cons_zero, List.set_cons_succ]
            obtain ⟨z0, z1, z2, z3, z4, zf0, zf1, zf2, zf3, zf4⟩ := blk5 mP
            refine skip_op (i := 23) (OP := Op.store 43 (Operand.tmp 5) (Operand.tmp 33)) (T := 0) (w' := (((((v5.setCell ⟨Pn, 0, none⟩ (.int .i64 OG)).setCell ⟨Pn, 1, none⟩ (.int .i64 X8)).setCell ⟨Pn, 2, none⟩ (.string (s.extract 9 A))).setCell ⟨Pn, 3, none⟩ (.int .i64 ON)).setCell ⟨Pn, 4, none⟩ (.int .i64 XT))) rfl rfl rfl rfl (by kernel_rfl) (by rfl) (by go_simp) ⟨trivial, ?_⟩
            refine wpAnyH_done (by kernel_rfl) ?_ _
            go_wp2
            go_meet
            exact ⟨Pn, rfl, hide ⟨set5 mP, bel5 (by omega) hD, bel5 hp hQ, by simp only [setCell_size]; omega⟩⟩
        · try simp only [Act.put, List.setIfInBounds_toArray, List.set_cons_zero, List.set_cons_succ]
          have mP := heap_alloc_new W1 (.cells #[.int .i64 0, .int .i64 0, .string ⟨#[]⟩, .int .i64 0, .int .i64 0] 43)
          replace hD := hD.alloc hD.size (.cells #[.int .i64 0, .int .i64 0, .string ⟨#[]⟩, .int .i64 0, .int .i64 0] 43)
          replace hQ := hQ.alloc hz (.cells #[.int .i64 0, .int .i64 0, .string ⟨#[]⟩, .int .i64 0, .int .i64 0] 43)
          have hp : w.heap.size + 1 ≤ W1.heap.size := hz
          have hpz : W1.heap.size < (W1.alloc (.cells #[.int .i64 0, .int .i64 0, .string ⟨#[]⟩, .int .i64 0, .int .i64 0] 43)).heap.size := by simp
          replace hz : w.heap.size + 1 ≤ (W1.alloc (.cells #[.int .i64 0, .int .i64 0, .string ⟨#[]⟩, .int .i64 0, .int .i64 0] 43)).heap.size := by simp; omega
          generalize W1.heap.size = Pn at mP hp hpz ⊢
          generalize W1.alloc (.cells #[.int .i64 0, .int .i64 0, .string ⟨#[]⟩, .int .i64 0, .int .i64 0] 43) = x1 at mP hD hQ hz hpz ⊢
          refine call_op (i := 1) (d := 13) (OP := Op.call { callee := Callee.value (Operand.func 137), args := #[Operand.tmp 12], argTypes := #[9] }) (T := 2) (f := 137) (args := #[.string s]) rfl rfl rfl rfl (by kernel_rfl) (by rfl) (by go_simp) ?_
          refine (hg _).mono ?_
          rintro e v7 ⟨rfl, bb⟩
          replace hD := hD.trans (bb.mono hD.size)
          replace hQ := hQ.trans (bb.mono hz)
          replace hz := Nat.le_trans hz bb.size
          replace mP := (bb.block _ hpz).trans mP
          replace hpz := Nat.lt_of_lt_of_le hpz bb.size
          clear bb
          refine ⟨_, rfl, trivial, ?_⟩
          replace hHeld := trivial
          try simp only [Act.put, List.setIfInBounds_toArray, List.set_cons_zero, List.set_cons_succ]
          refine call_op (i := 14) (d := 26) (OP := Op.call { callee := Callee.value (Operand.func 137), args := #[Operand.tmp 25], argTypes := #[9] }) (T := 2) (f := 137) (args := #[.string (s.extract B9 s.size)]) rfl rfl rfl rfl (by kernel_rfl) (by rfl) (by go_simp) ?_
          refine (hn _).mono ?_
          rintro e v8 ⟨rfl, bb⟩
          replace hD := hD.trans (bb.mono hD.size)
          replace hQ := hQ.trans (bb.mono hz)
          replace hz := Nat.le_trans hz bb.size
          replace mP := (bb.block _ hpz).trans mP
          replace hpz := Nat.lt_of_lt_of_le hpz bb.size
          clear bb
          refine ⟨_, rfl, trivial, ?_⟩
          replace hHeld := trivial
          try simp only [Act.put, List.setIfInBounds_toArray, List.set_cons_zero, List.set_cons_succ]
          refine take_op (i := 15) (d := 27) (OP := Op.build 41 #[(0, Operand.tmp 21), (1, Operand.tmp 26)]) (T := 41) (v := ?vy23x) rfl rfl rfl rfl (by kernel_rfl) (by kernel_rfl) (by kernel_rfl) (fun _ _ _ h => h) (by rfl) ?hy23x hHeld ?ry23x
          case hy23x => (intro w' hSw; (try dsimp only at hSw); go_simp <;> with_reducible rfl)
          try simp only [Act.put, List.setIfInBounds_toArray, List.set_cons_zero, List.set_cons_succ]
          refine take_op (i := 21) (d := 33) (OP := Op.build 43 #[(0, Operand.tmp 13), (1, Operand.tmp 27), (2, Operand.tmp 32)]) (T := 43) (v := ?vy24x) rfl rfl rfl rfl (by kernel_rfl) (by kernel_rfl) (by kernel_rfl) (fun _ _ _ h => h) (by rfl) ?hy24x hHeld ?ry24x
          case hy24x => (intro w' hSw; (try dsimp only at hSw); go_simp <;> with_reducible rfl)
          try simp only [Act.put, List.setIfInBounds_toArray, List.set_cons_zero, List.set_cons_succ]
          obtain ⟨z0, z1, z2, z3, z4, zf0, zf1, zf2, zf3, zf4⟩ := blk5 mP
          refine skip_op (i := 23) (OP := Op.store 43 (Operand.tmp 5) (Operand.tmp 33)) (T := 0) (w' := (((((v8.setCell ⟨Pn, 0, none⟩ (.int .i64 OG)).setCell ⟨Pn, 1, none⟩ (.int .i64 X8)).setCell ⟨Pn, 2, none⟩ (.string (s.extract 9 A))).setCell ⟨Pn, 3, none⟩ (.int .i64 ON)).setCell ⟨Pn, 4, none⟩ (.int .i64 XT))) rfl rfl rfl rfl (by kernel_rfl) (by rfl) (by go_simp) ⟨trivial, ?_⟩
          refine wpAnyH_done (by kernel_rfl) ?_ _
          go_wp2
          go_meet
          exact ⟨Pn, rfl, hide ⟨set5 mP, bel5 (by omega) hD, bel5 hp hQ, by simp only [setCell_size]; omega⟩⟩
    case rest =>
      clear hD hQ hz
      obtain ⟨Pn, rfl, HP⟩ := hcut
      obtain ⟨mP, hD, hQ, hz⟩ := HP.out
      obtain ⟨y0, y1, y2, y3, y4, _, _, _, _, _⟩ := blk5 mP
      have hwz : w.heap.size + 1 ≤ wc.heap.size := by have := hQ.size; omega
      cases VV with
      | false =>
        have hpv : PV = false := by have := HV.out.1; simpa using this
        obtain ⟨e0, e1, e2, e3, e4, eE⟩ := HV.out.2.2 hpv
        have HEQ := hide (And.intro eE (And.intro e0 (And.intro e1 (And.intro e2 (And.intro e3 e4)))))
        clear eE e0 e1 e2 e3 e4
        go_wp2_with (go_at_call 84; refine (hv _).mono ?_; rintro e w5 ⟨rfl, b5⟩; have HR := hide (hk w5 (hQ.trans (b5.mono hwz))); obtain ⟨z0, z1', z2, z3, z4, zf0, zf1, zf2, zf3, zf4⟩ := blk5 HR.out; have hD5 := hD.trans (b5.mono hD.size); clear b5)
        refine ret_row_tmp w.heap.size [.int .i64 0, .int .i64 0, .string ⟨#[]⟩, .int .i64 0, .int .i64 0] rfl rfl rfl Tryz.underlying43 rfl (by kernel_rfl) (t := 43) (fr := (0, 0)) (set5 HR.out) rfl ?_
        exact ⟨by rw [HEQ.out.1, HEQ.out.2.1, HEQ.out.2.2.1, HEQ.out.2.2.2.1, HEQ.out.2.2.2.2.1, HEQ.out.2.2.2.2.2] <;> rfl, bel5 (Nat.le_refl _) hD5⟩
      | true =>
        have hty := ht rfl
        clear ht
        by_cases hTs : TT = s
        · have hpv : PV = true := by have := HV.out.1; rw [this]; simp [hTs]
          obtain ⟨e0, e1, e2, e3, e4, eE⟩ := HV.out.2.1 hpv
          have HEQ := hide (And.intro eE (And.intro e0 (And.intro e1 (And.intro e2 (And.intro e3 e4)))))
          clear eE e0 e1 e2 e3 e4
          have hTn : (TT.toList == s.toList) = true := by rw [hTs]; simp
          go_wp2_with (go_at_call 84; refine (hv _).mono ?_; rintro e w5 ⟨rfl, b5⟩; have mP5 := (b5.block _ hz).trans mP; have hD5 := hD.trans (b5.mono hD.size); have hQ5 := hQ.trans (b5.mono hwz); have hz5 := Nat.le_trans hwz b5.size; have hzP := Nat.lt_of_lt_of_le hz b5.size; clear y0 y1 y2 y3 y4 b5; obtain ⟨y0, y1, y2, y3, y4, _, _, _, _, _⟩ := blk5 mP5)
          go_wp2_with (go_at_call 138; refine (hty _).mono ?_; rintro e w6 ⟨rfl, b6⟩; have mP6 := (b6.block _ hzP).trans mP5; have HR := hide (hk w6 (hQ5.trans (b6.mono hz5))); have hD6 := hD5.trans (b6.mono hD5.size); clear y0 y1 y2 y3 y4 b6; obtain ⟨y0, y1, y2, y3, y4, _, _, _, _, _⟩ := blk5 mP6; obtain ⟨z0, z1', z2, z3, z4, zf0, zf1, zf2, zf3, zf4⟩ := blk5 HR.out)
          refine ret_row_tmp w.heap.size [.int .i64 OG, .int .i64 X8, .string (s.extract 9 A), .int .i64 ON, .int .i64 XT] rfl rfl rfl Tryz.underlying43 rfl (by kernel_rfl) (t := 43) (fr := (0, 0)) (set5 HR.out) rfl ?_
          exact ⟨by rw [HEQ.out.1, HEQ.out.2.1, HEQ.out.2.2.1, HEQ.out.2.2.2.1, HEQ.out.2.2.2.2.1, HEQ.out.2.2.2.2.2] <;> rfl, bel5 (Nat.le_refl _) hD6⟩
        · have hpv : PV = false := by have := HV.out.1; rw [this]; simp [hTs]
          obtain ⟨e0, e1, e2, e3, e4, eE⟩ := HV.out.2.2 hpv
          have HEQ := hide (And.intro eE (And.intro e0 (And.intro e1 (And.intro e2 (And.intro e3 e4)))))
          clear eE e0 e1 e2 e3 e4
          have hTn : (TT.toList == s.toList) = false := by rw [beq_eq_false_iff_ne, ByteArray.toList_eq, ByteArray.toList_eq]; exact fun h => hTs (ba_ext h)
          go_wp2_with (go_at_call 84; refine (hv _).mono ?_; rintro e w5 ⟨rfl, b5⟩; have mP5 := (b5.block _ hz).trans mP; have hD5 := hD.trans (b5.mono hD.size); have hQ5 := hQ.trans (b5.mono hwz); have hz5 := Nat.le_trans hwz b5.size; clear y0 y1 y2 y3 y4 b5; obtain ⟨y0, y1, y2, y3, y4, _, _, _, _, _⟩ := blk5 mP5)
          go_wp2_with (go_at_call 138; refine (hty _).mono ?_; rintro e w6 ⟨rfl, b6⟩; have HR := hide (hk w6 (hQ5.trans (b6.mono hz5))); have hD6 := hD5.trans (b6.mono hD5.size); clear b6; obtain ⟨z0, z1', z2, z3, z4, zf0, zf1, zf2, zf3, zf4⟩ := blk5 HR.out)
          refine ret_row_tmp w.heap.size [.int .i64 0, .int .i64 0, .string ⟨#[]⟩, .int .i64 0, .int .i64 0] rfl rfl rfl Tryz.underlying43 rfl (by kernel_rfl) (t := 43) (fr := (0, 0)) (set5 HR.out) rfl ?_
          exact ⟨by rw [HEQ.out.1, HEQ.out.2.1, HEQ.out.2.2.1, HEQ.out.2.2.2.1, HEQ.out.2.2.2.2.1, HEQ.out.2.2.2.2.2] <;> rfl, bel5 (Nat.le_refl _) hD6⟩
end Go.Proofs.YtkeldhohilmdcaaGreat
namespace Go.Proofs.YtkeldhohilmdcaaGreat
open Go.RowKit Go.Shelf
set_option linter.unusedSimpArgs false
attribute [local go_sem] Oper.semAt_some

end Go.Proofs.YtkeldhohilmdcaaGreat
namespace Go.Proofs.YtkeldhohilmdcaaGreat
open Go.RowKit Go.Shelf

end Go.Proofs.YtkeldhohilmdcaaGreat
namespace Go.Proofs.YtkeldhohilmdcaaGreat
open Go.RowKit Go.Shelf

end Go.Proofs.YtkeldhohilmdcaaGreat
