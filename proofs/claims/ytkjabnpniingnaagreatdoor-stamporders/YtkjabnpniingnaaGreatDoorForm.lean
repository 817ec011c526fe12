/-
  FORMS: what the program's and the document's forms of branches, names, stamps are.
-/
import Derived.Test.YtkjabnpniingnaaGreatDoorValid
namespace Go.Proofs.YtkjabnpniingnaaGreatDoor
open Go.RowKit Go.Shelf
set_option linter.unusedSimpArgs false

def ints (l : List UInt8) : List Int := l.map (fun b => (b.toNat : Int))
theorem ints_length (l : List UInt8) : (ints l).length = l.length := by simp [ints]
theorem ints_append (l m : List UInt8) : ints (l ++ m) = ints l ++ ints m := by simp [ints]
theorem ints_size (s : ByteArray) : (ints s.data.toList).length = s.size := by rw [ints_length, ← Lib.size_eq]
theorem str_ints (l : List UInt8) : strOfNums (ints l) = ⟨l.toArray⟩ := by
  unfold strOfNums ints
  rw [List.map_map]
  congr 2
  conv => rhs; rw [← List.map_id l]
  apply List.map_congr_left
  intro b _
  simp
/-- The bytes of a text, in new memory. -/
theorem conv_str (s : ByteArray) (W : World) : ∃ c W', (convert 9 29 (.string s)).run Tryz.prog W = .ok (.slice (some ⟨W.heap.size, 0, none⟩) s.size c) W' ∧ Rd W' (some ⟨W.heap.size, 0, none⟩) (ints s.data.toList) ∧ Below W.heap.size W W' := by
  refine ⟨_, _, Lib.run_convert_string_bytes (P := Tryz.prog) W 9 29 5 s Tryz.underlying9 Tryz.underlying29 Tryz.underlying5, ⟨by simp, ?_⟩, ⟨rfl, rfl, rfl, by rw [Lib.bytesWorld_size]; omega, fun k hk => Lib.bytesWorld_at_old W 5 s k hk⟩⟩
  intro a ha j u hj
  cases ha
  rw [u8s_get] at hj
  have hl : s.data.toList.length = s.size := (Lib.size_eq s).symm
  have hjl : j < s.size := by
    cases hg : (ints s.data.toList)[j]? with
    | none => rw [hg] at hj; cases hj
    | some v => have := (List.getElem?_eq_some_iff.1 hg).1; rw [ints_size] at this; exact this
  rw [add_lit, Nat.zero_add, Lib.bytesWorld_cell W 5 s j hjl, ← hj]
  simp [ints, List.getD, List.getElem?_eq_getElem (show j < s.data.toList.length by omega)]
theorem exec_conv {ev : Operand → Value} {x : Operand} {T : TypeId} {s : ByteArray} {v : Value} {w w' : World} (hx : ev x = .string s) (hr : (convert 9 29 (.string s)).run Tryz.prog w = .ok v w') :
    (execOp ev { dst := none, op := .convert 9 29 x, type := T, pos := "", after := #[], guard := none }).run Tryz.prog w = .ok (.value v) w' := by
  simp [execOp, hx, hr, Result.andThen]
theorem exec_two {ev : Operand → Value} {x y : Operand} {T : TypeId} {a b : Option Addr} {n m c d : Nat} {w : World} (hx : ev x = .slice a n c) (hy : ev y = .slice b m d) :
    (execOp ev { dst := none, op := .buildSlice 152 2 #[(0, x), (1, y)], type := T, pos := "", after := #[], guard := none }).run Tryz.prog w = .ok (.value (.slice (some ⟨w.heap.size, 0, none⟩) 2 2)) (w.alloc (.cells #[.slice a n c, .slice b m d] 29)) := by
  unfold execOp
  simp [hx, hy, go_sem]
theorem exec_three {ev : Operand → Value} {x y z : Operand} {T : TypeId} {a b e : Option Addr} {n m k c d f : Nat} {w : World} (hx : ev x = .slice a n c) (hy : ev y = .slice b m d) (hz : ev z = .slice e k f) :
    (execOp ev { dst := none, op := .buildSlice 152 3 #[(0, x), (1, y), (2, z)], type := T, pos := "", after := #[], guard := none }).run Tryz.prog w = .ok (.value (.slice (some ⟨w.heap.size, 0, none⟩) 3 3)) (w.alloc (.cells #[.slice a n c, .slice b m d, .slice e k f] 29)) := by
  unfold execOp
  simp [hx, hy, hz, go_sem]
theorem Pieces.three {w : World} (a1 a2 a3 : Option Addr) (c1 c2 c3 : Nat) (l1 l2 l3 : List Int) (t : TypeId) (h1 : Rd w a1 l1) (h2 : Rd w a2 l2) (h3 : Rd w a3 l3) (n1 : a1 = none → c1 = 0) (n2 : a2 = none → c2 = 0) (n3 : a3 = none → c3 = 0) :
    Pieces (w.alloc (.cells #[.slice a1 l1.length c1, .slice a2 l2.length c2, .slice a3 l3.length c3] t)) (some ⟨w.heap.size, 0, none⟩) [l1, l2, l3] := by
  have hb : Below w.heap.size w (w.alloc (.cells #[.slice a1 l1.length c1, .slice a2 l2.length c2, .slice a3 l3.length c3] t)) := (Below.refl _ _).alloc (Nat.le_refl _) _
  refine ⟨by simp, ?_⟩
  intro a ha j l hj
  cases ha
  match j, hj with
  | 0, hj => simp at hj; subst hj; exact ⟨a1, c1, by rw [add_lit]; simp [go_sem], h1.below hb, n1⟩
  | 1, hj => simp at hj; subst hj; exact ⟨a2, c2, by rw [add_lit]; simp [go_sem], h2.below hb, n2⟩
  | 2, hj => simp at hj; subst hj; exact ⟨a3, c3, by rw [add_lit]; simp [go_sem], h3.below hb, n3⟩

def brL (r : Int) (l : ByteArray) : List Int := Plain.numL r.toNat ++ (Plain.numL l.size ++ ints l.data.toList)
def nmL (r : Int) (l : ByteArray) (n : Int) : List Int := brL r l ++ Plain.numL n.toNat
def stL (g r : Int) (l : ByteArray) (n x : Int) : List Int := Plain.numL g.toNat ++ nmL r l n ++ Plain.numL x.toNat
theorem brL_length (r : Int) (l : ByteArray) (h1 : r ≤ 9223372036854775807) (hl : l.size ≤ 1000000) : (brL r l).length ≤ 1000020 := by
  have a := Plain.numL_ten r.toNat (by omega)
  have b := Plain.numL_ten l.size (by omega)
  unfold brL
  rw [List.length_append, List.length_append, ints_size]
  omega

set_option maxHeartbeats 2000000 in
set_option maxRecDepth 100000 in
theorem branchForm_any (r : Int) (l : ByteArray) (w : World) (h0 : 0 ≤ r) (h1 : r ≤ 9223372036854775807) (hl : l.size ≤ 1000000) : Calls Tryz.prog 64 #[bv r l] w fun e w' => Made 5 w w' e (brL r l) := by
  have hb := below_new w (.cells #[.int .i64 r, .string l] 23)
  obtain ⟨p0, p1⟩ := two_new w (.int .i64 r) (.string l) 23
  have wr : IntKind.u64.wrap r = r := by rw [IntKind.wrap_u64]; omega
  have h10 := Plain.numL_ten r.toNat (by omega)
  have h11 := Plain.numL_ten l.size (by omega)
  have hn : ∀ W, Calls Tryz.prog 106 #[.int .u64 r] W fun e w' => Made 5 W w' e (Plain.numL r.toNat) := fun W => number_int r W h0 (by omega)
  have hby : ∀ (W : World) (a : Addr) (c : Nat), Rd W (some a) (ints l.data.toList) → Calls Tryz.prog 107 #[.slice (some a) l.size c] W fun e w' => Made 5 W w' e (Plain.numL l.size ++ ints l.data.toList) := fun W a c hr => by
    have := bytes_any (some a) c (ints l.data.toList) W hr (by intro e; cases e) (by rw [ints_size]; omega)
    rw [ints_size] at this
    exact this
  have hj : ∀ (W : World) (a1 a2 : Option Addr) (c1 c2 : Nat), Rd W a1 (Plain.numL r.toNat) → Rd W a2 (Plain.numL l.size ++ ints l.data.toList) → (a1 = none → c1 = 0) → (a2 = none → c2 = 0) → Calls Tryz.prog 105 #[.slice (some ⟨W.heap.size, 0, none⟩) 2 2] (W.alloc (.cells #[.slice a1 (Plain.numL r.toNat).length c1, .slice a2 (Plain.numL l.size ++ ints l.data.toList).length c2] 29)) fun e w' => Made 5 W w' e (brL r l) := fun W a1 a2 c1 c2 q1 q2 n1 n2 => by
    refine (join_any _ 2 [Plain.numL r.toNat, Plain.numL l.size ++ ints l.data.toList] _ (Pieces.two a1 a2 c1 c2 _ _ 29 q1 q2 n1 n2) (by simp) (by simp [ints_size]; omega)).mono ?_
    intro e w' h
    have := h.intro ((Below.refl _ W).alloc (Nat.le_refl _) _) (by simp)
    simpa [brL] using this
  go_enter Tryz.func64, Tryz.ntmps64
  go_wp2
  generalize (w.alloc (.cells #[.int .i64 r, .string l] 23)) = W0 at hb p0 p1 ⊢
  have hS1 : W0.drew.cell? ⟨w.heap.size, 0, none⟩ = some (.int .i64 r) ∧ W0.drew.cell? ⟨w.heap.size, 1, none⟩ = some (.string l) := ⟨p0, p1⟩
  have hBW : Below w.heap.size w W0.drew := hb.drew
  clear hb p0 p1
  refine wp_region_held_drew (S := (fun w' => w'.cell? ⟨w.heap.size, 0, none⟩ = some (.int .i64 r) ∧ w'.cell? ⟨w.heap.size, 1, none⟩ = some (.string l))) (by kernel_rfl) (by exact hS1) (fun hHeld => ?_)
  try dsimp only at hHeld
  refine take_op (i := 0) (d := 3) (OP := Op.fieldAddr 23 (Operand.tmp 1) 0) (T := 0) (v := ?vy1x) rfl rfl rfl rfl (by kernel_rfl) (by kernel_rfl) (by kernel_rfl) (fun _ _ _ h => h) (by rfl) ?hy1x hHeld ?ry1x
  case hy1x => (intro w' hSw; (try dsimp only at hSw); go_simp <;> with_reducible rfl)
  try simp only [Act.put, List.setIfInBounds_toArray, List.set_cons_zero, List.set_cons_succ]
  refine take_op (i := 1) (d := 4) (OP := Op.load 3 (Operand.tmp 3)) (T := 3) (v := ?vy2x) rfl rfl rfl rfl (by kernel_rfl) (by kernel_rfl) (by kernel_rfl) (fun _ _ _ h => h) (by rfl) ?hy2x hHeld ?ry2x
  case hy2x => (intro w' hSw; (try dsimp only at hSw); go_simp <;> with_reducible rfl)
  try simp only [Act.put, List.setIfInBounds_toArray, List.set_cons_zero, List.set_cons_succ]
  refine take_op (i := 2) (d := 5) (OP := Op.convert 3 54 (Operand.tmp 4)) (T := 54) (v := ?vy3x) rfl rfl rfl rfl (by kernel_rfl) (by kernel_rfl) (by kernel_rfl) (fun _ _ _ h => h) (by rfl) ?hy3x hHeld ?ry3x
  case hy3x => (intro w' hSw; (try dsimp only at hSw); go_simp <;> with_reducible rfl)
  try simp only [Act.put, List.setIfInBounds_toArray, List.set_cons_zero, List.set_cons_succ]
  refine take_op (i := 4) (d := 7) (OP := Op.fieldAddr 23 (Operand.tmp 1) 1) (T := 0) (v := ?vy4x) rfl rfl rfl rfl (by kernel_rfl) (by kernel_rfl) (by kernel_rfl) (fun _ _ _ h => h) (by rfl) ?hy4x hHeld ?ry4x
  case hy4x => (intro w' hSw; (try dsimp only at hSw); go_simp <;> with_reducible rfl)
  try simp only [Act.put, List.setIfInBounds_toArray, List.set_cons_zero, List.set_cons_succ]
  refine take_op (i := 5) (d := 8) (OP := Op.load 9 (Operand.tmp 7)) (T := 9) (v := ?vy5x) rfl rfl rfl rfl (by kernel_rfl) (by kernel_rfl) (by kernel_rfl) (fun _ _ _ h => h) (by rfl) ?hy5x hHeld ?ry5x
  case hy5x => (intro w' hSw; (try dsimp only at hSw); go_simp <;> with_reducible rfl)
  try simp only [Act.put, List.setIfInBounds_toArray, List.set_cons_zero, List.set_cons_succ]
  obtain ⟨cc, Wc, hcv, hRc, bc⟩ := conv_str l W0.drew
  refine call_turn_op (i := 3) (di := 6) (OPi := Op.call { callee := Callee.value (Operand.func 106), args := #[Operand.tmp 5], argTypes := #[54] }) (Ti := 29) (j := 6) (dj := 9) (OPj := Op.convert 9 29 (Operand.tmp 8)) (Tj := 29) (f := 106) (args := #[.int .u64 r]) (u := .slice (some ⟨W0.drew.heap.size, 0, none⟩) l.size cc) (w' := Wc) rfl rfl rfl rfl rfl rfl rfl rfl (by kernel_rfl) (by rfl) (by rfl) (by go_simp) (exec_conv rfl hcv) (And.intro (kept bc hHeld.1) (kept bc hHeld.2)) ?_ ?_
  · refine (hn _).mono ?_
    rintro e w3 ⟨a1, c1, rfl, hO3, n1, b3⟩
    have hS3 := (And.intro (kept b3 hHeld.1) (kept b3 hHeld.2))
    have hB3 := hBW.trans (b3.mono hBW.size)
    refine ⟨_, rfl, hS3, ?_⟩
    replace hHeld := hS3
    try simp only [Act.put, List.setIfInBounds_toArray, List.set_cons_zero, List.set_cons_succ]
    obtain ⟨cd, Wd, hcd, hRd, bd⟩ := conv_str l w3
    refine turn_op (i := 6) (d := 9) (OP := Op.convert 9 29 (Operand.tmp 8)) (T := 29) (v := .slice (some ⟨w3.heap.size, 0, none⟩) l.size cd) (w' := Wd) rfl rfl rfl rfl (by kernel_rfl) (by rfl) (exec_conv rfl hcd) (And.intro (kept bd hHeld.1) (kept bd hHeld.2)) ?_
    replace hHeld := (And.intro (kept bd hHeld.1) (kept bd hHeld.2))
    try simp only [Act.put, List.setIfInBounds_toArray, List.set_cons_zero, List.set_cons_succ]
    have hBd := hB3.trans (bd.mono hB3.size)
    refine call_op (i := 7) (d := 10) (OP := Op.call { callee := Callee.value (Operand.func 107), args := #[Operand.tmp 9], argTypes := #[29] }) (T := 29) (f := 107) (args := #[.slice (some ⟨w3.heap.size, 0, none⟩) l.size cd]) rfl rfl rfl rfl (by kernel_rfl) (by rfl) (by go_simp) ?_
    refine (hby _ _ _ hRd).mono ?_
    rintro e w7 ⟨a7, c7, rfl, hO7, n7, b7⟩
    have hS7 := (And.intro (kept b7 hHeld.1) (kept b7 hHeld.2))
    have hR1 := (hO3.rd.below bd).below b7
    have hB7 := (hBd).trans (b7.mono (hBd).size)
    refine ⟨_, rfl, hS7, ?_⟩
    replace hHeld := hS7
    try simp only [Act.put, List.setIfInBounds_toArray, List.set_cons_zero, List.set_cons_succ]
    refine turn_op (i := 8) (d := 11) (OP := Op.buildSlice 152 2 #[(0, Operand.tmp 6), (1, Operand.tmp 10)]) (T := 152) (v := .slice (some ⟨w7.heap.size, 0, none⟩) 2 2) (w' := (w7.alloc (.cells #[.slice a1 (Plain.numL r.toNat).length c1, .slice a7 (Plain.numL l.size ++ ints l.data.toList).length c7] 29))) rfl rfl rfl rfl (by kernel_rfl) (by rfl) (exec_two rfl rfl) (And.intro (kept (below_new w7 (.cells #[.slice a1 (Plain.numL r.toNat).length c1, .slice a7 (Plain.numL l.size ++ ints l.data.toList).length c7] 29)) hHeld.1) (kept (below_new w7 (.cells #[.slice a1 (Plain.numL r.toNat).length c1, .slice a7 (Plain.numL l.size ++ ints l.data.toList).length c7] 29)) hHeld.2)) ?_
    replace hHeld := (And.intro (kept (below_new w7 (.cells #[.slice a1 (Plain.numL r.toNat).length c1, .slice a7 (Plain.numL l.size ++ ints l.data.toList).length c7] 29)) hHeld.1) (kept (below_new w7 (.cells #[.slice a1 (Plain.numL r.toNat).length c1, .slice a7 (Plain.numL l.size ++ ints l.data.toList).length c7] 29)) hHeld.2))
    try simp only [Act.put, List.setIfInBounds_toArray, List.set_cons_zero, List.set_cons_succ]
    refine call_op (i := 9) (d := 12) (OP := Op.call { callee := Callee.value (Operand.func 105), args := #[Operand.tmp 11], argTypes := #[152] }) (T := 29) (f := 105) (args := #[.slice (some ⟨w7.heap.size, 0, none⟩) 2 2]) rfl rfl rfl rfl (by kernel_rfl) (by rfl) (by go_simp) ?_
    refine (hj w7 a1 a7 c1 c7 hR1 hO7.rd n1 n7).mono ?_
    rintro e w9 ⟨a9, c9, rfl, hO9, n9, b9⟩
    have hS9 : w9.cell? ⟨w.heap.size, 0, none⟩ = some (.int .i64 r) ∧ w9.cell? ⟨w.heap.size, 1, none⟩ = some (.string l) := ⟨kept b9 hS7.1, kept b9 hS7.2⟩
    have hB9 := hB7.trans (b9.mono hB7.size)
    refine ⟨_, rfl, hS9, ?_⟩
    replace hHeld := hS9
    try simp only [Act.put, List.setIfInBounds_toArray, List.set_cons_zero, List.set_cons_succ]
    refine take_op (i := 10) (d := 2) (OP := Op.assign (Operand.tmp 12)) (T := 29) (v := ?vy6x) rfl rfl rfl rfl (by kernel_rfl) (by kernel_rfl) (by kernel_rfl) (fun _ _ _ h => h) (by rfl) ?hy6x hHeld ?ry6x
    case hy6x => (intro w' hSw; (try dsimp only at hSw); go_simp <;> with_reducible rfl)
    try simp only [Act.put, List.setIfInBounds_toArray, List.set_cons_zero, List.set_cons_succ]
    refine wpAnyH_done (by kernel_rfl) ?_ _
    go_wp2
    go_ret
    exact ⟨a9, c9, rfl, hO9.lift hB7.size, n9, hB9⟩
  · try simp only [Act.put, List.setIfInBounds_toArray, List.set_cons_zero, List.set_cons_succ]
    replace hHeld : Wc.cell? ⟨w.heap.size, 0, none⟩ = some (.int .i64 r) ∧ Wc.cell? ⟨w.heap.size, 1, none⟩ = some (.string l) := (And.intro (kept bc hHeld.1) (kept bc hHeld.2))
    have hBc := hBW.trans (bc.mono hBW.size)
    refine call_op (i := 3) (d := 6) (OP := Op.call { callee := Callee.value (Operand.func 106), args := #[Operand.tmp 5], argTypes := #[54] }) (T := 29) (f := 106) (args := #[.int .u64 r]) rfl rfl rfl rfl (by kernel_rfl) (by rfl) (by go_simp) ?_
    refine (hn _).mono ?_
    rintro e w3 ⟨a1, c1, rfl, hO3, n1, b3⟩
    have hS3 := (And.intro (kept b3 hHeld.1) (kept b3 hHeld.2))
    have hB3 := hBc.trans (b3.mono hBc.size)
    refine ⟨_, rfl, hS3, ?_⟩
    replace hHeld := hS3
    try simp only [Act.put, List.setIfInBounds_toArray, List.set_cons_zero, List.set_cons_succ]
    refine call_op (i := 7) (d := 10) (OP := Op.call { callee := Callee.value (Operand.func 107), args := #[Operand.tmp 9], argTypes := #[29] }) (T := 29) (f := 107) (args := #[.slice (some ⟨W0.drew.heap.size, 0, none⟩) l.size cc]) rfl rfl rfl rfl (by kernel_rfl) (by rfl) (by go_simp) ?_
    refine (hby _ _ _ (hRc.below b3)).mono ?_
    rintro e w7 ⟨a7, c7, rfl, hO7, n7, b7⟩
    have hS7 := (And.intro (kept b7 hHeld.1) (kept b7 hHeld.2))
    have hR1 := (hO3.rd).below b7
    have hB7 := (hB3).trans (b7.mono (hB3).size)
    refine ⟨_, rfl, hS7, ?_⟩
    replace hHeld := hS7
    try simp only [Act.put, List.setIfInBounds_toArray, List.set_cons_zero, List.set_cons_succ]
    refine turn_op (i := 8) (d := 11) (OP := Op.buildSlice 152 2 #[(0, Operand.tmp 6), (1, Operand.tmp 10)]) (T := 152) (v := .slice (some ⟨w7.heap.size, 0, none⟩) 2 2) (w' := (w7.alloc (.cells #[.slice a1 (Plain.numL r.toNat).length c1, .slice a7 (Plain.numL l.size ++ ints l.data.toList).length c7] 29))) rfl rfl rfl rfl (by kernel_rfl) (by rfl) (exec_two rfl rfl) (And.intro (kept (below_new w7 (.cells #[.slice a1 (Plain.numL r.toNat).length c1, .slice a7 (Plain.numL l.size ++ ints l.data.toList).length c7] 29)) hHeld.1) (kept (below_new w7 (.cells #[.slice a1 (Plain.numL r.toNat).length c1, .slice a7 (Plain.numL l.size ++ ints l.data.toList).length c7] 29)) hHeld.2)) ?_
    replace hHeld := (And.intro (kept (below_new w7 (.cells #[.slice a1 (Plain.numL r.toNat).length c1, .slice a7 (Plain.numL l.size ++ ints l.data.toList).length c7] 29)) hHeld.1) (kept (below_new w7 (.cells #[.slice a1 (Plain.numL r.toNat).length c1, .slice a7 (Plain.numL l.size ++ ints l.data.toList).length c7] 29)) hHeld.2))
    try simp only [Act.put, List.setIfInBounds_toArray, List.set_cons_zero, List.set_cons_succ]
    refine call_op (i := 9) (d := 12) (OP := Op.call { callee := Callee.value (Operand.func 105), args := #[Operand.tmp 11], argTypes := #[152] }) (T := 29) (f := 105) (args := #[.slice (some ⟨w7.heap.size, 0, none⟩) 2 2]) rfl rfl rfl rfl (by kernel_rfl) (by rfl) (by go_simp) ?_
    refine (hj w7 a1 a7 c1 c7 hR1 hO7.rd n1 n7).mono ?_
    rintro e w9 ⟨a9, c9, rfl, hO9, n9, b9⟩
    have hS9 : w9.cell? ⟨w.heap.size, 0, none⟩ = some (.int .i64 r) ∧ w9.cell? ⟨w.heap.size, 1, none⟩ = some (.string l) := ⟨kept b9 hS7.1, kept b9 hS7.2⟩
    have hB9 := hB7.trans (b9.mono hB7.size)
    refine ⟨_, rfl, hS9, ?_⟩
    replace hHeld := hS9
    try simp only [Act.put, List.setIfInBounds_toArray, List.set_cons_zero, List.set_cons_succ]
    refine take_op (i := 10) (d := 2) (OP := Op.assign (Operand.tmp 12)) (T := 29) (v := ?vy7x) rfl rfl rfl rfl (by kernel_rfl) (by kernel_rfl) (by kernel_rfl) (fun _ _ _ h => h) (by rfl) ?hy7x hHeld ?ry7x
    case hy7x => (intro w' hSw; (try dsimp only at hSw); go_simp <;> with_reducible rfl)
    try simp only [Act.put, List.setIfInBounds_toArray, List.set_cons_zero, List.set_cons_succ]
    refine wpAnyH_done (by kernel_rfl) ?_ _
    go_wp2
    go_ret
    exact ⟨a9, c9, rfl, hO9.lift hB7.size, n9, hB9⟩

theorem nmL_length (r : Int) (l : ByteArray) (n : Int) (h1 : r ≤ 9223372036854775807) (hl : l.size ≤ 1000000) (hn : n ≤ 9223372036854775807) : (nmL r l n).length ≤ 1000030 := by
  have a := Plain.numL_ten n.toNat (by omega)
  have b := brL_length r l h1 hl
  unfold nmL
  rw [List.length_append]
  omega
set_option maxHeartbeats 2000000 in
set_option maxRecDepth 100000 in
theorem nameForm_any (r : Int) (l : ByteArray) (n : Int) (w : World) (h0 : 0 ≤ r) (h1 : r ≤ 9223372036854775807) (hl : l.size ≤ 1000000) (n0 : 0 ≤ n) (n1 : n ≤ 9223372036854775807) : Calls Tryz.prog 62 #[nv r l n] w fun e w' => Made 5 w w' e (nmL r l n) := by
  have hb := below_new w (.cells #[.int .i64 r, .string l, .int .i64 n] 25)
  obtain ⟨p0, p1, p2⟩ := three_new w (.int .i64 r) (.string l) (.int .i64 n) 25
  have wn : IntKind.u64.wrap n = n := by rw [IntKind.wrap_u64]; omega
  have h10 := Plain.numL_ten n.toNat (by omega)
  have h11 := brL_length r l h1 hl
  have hn : ∀ W, Calls Tryz.prog 106 #[.int .u64 n] W fun e w' => Made 5 W w' e (Plain.numL n.toNat) := fun W => number_int n W n0 (by omega)
  have hby : ∀ W, Calls Tryz.prog 64 #[bv r l] W fun e w' => Made 5 W w' e (brL r l) := fun W => branchForm_any r l W h0 h1 hl
  have hj : ∀ (W : World) (a1 a2 : Option Addr) (c1 c2 : Nat), Rd W a1 (brL r l) → Rd W a2 (Plain.numL n.toNat) → (a1 = none → c1 = 0) → (a2 = none → c2 = 0) → Calls Tryz.prog 105 #[.slice (some ⟨W.heap.size, 0, none⟩) 2 2] (W.alloc (.cells #[.slice a1 (brL r l).length c1, .slice a2 (Plain.numL n.toNat).length c2] 29)) fun e w' => Made 5 W w' e (nmL r l n) := fun W a1 a2 c1 c2 q1 q2 n1 n2 => by
    refine (join_any _ 2 [brL r l, Plain.numL n.toNat] _ (Pieces.two a1 a2 c1 c2 _ _ 29 q1 q2 n1 n2) (by simp) (by simp; omega)).mono ?_
    intro e w' h
    have := h.intro ((Below.refl _ W).alloc (Nat.le_refl _) _) (by simp)
    simpa [nmL] using this
  go_enter Tryz.func62, Tryz.ntmps62
  go_wp2
  generalize (w.alloc (.cells #[.int .i64 r, .string l, .int .i64 n] 25)) = W0 at hb p0 p1 p2 ⊢
  have hS1 : W0.drew.cell? ⟨w.heap.size, 0, none⟩ = some (.int .i64 r) ∧ W0.drew.cell? ⟨w.heap.size, 1, none⟩ = some (.string l) ∧ W0.drew.cell? ⟨w.heap.size, 2, none⟩ = some (.int .i64 n) := ⟨p0, p1, p2⟩
  have hBW : Below w.heap.size w W0.drew := hb.drew
  clear hb p0 p1 p2
  refine wp_region_held_drew (S := (fun w' => w'.cell? ⟨w.heap.size, 0, none⟩ = some (.int .i64 r) ∧ w'.cell? ⟨w.heap.size, 1, none⟩ = some (.string l) ∧ w'.cell? ⟨w.heap.size, 2, none⟩ = some (.int .i64 n))) (by kernel_rfl) (by exact hS1) (fun hHeld => ?_)
  try dsimp only at hHeld
  refine take_op (i := 0) (d := 3) (OP := Op.fieldAddr 25 (Operand.tmp 1) 0) (T := 0) (v := ?vy8x) rfl rfl rfl rfl (by kernel_rfl) (by kernel_rfl) (by kernel_rfl) (fun _ _ _ h => h) (by rfl) ?hy8x hHeld ?ry8x
  case hy8x => (intro w' hSw; (try dsimp only at hSw); go_simp <;> with_reducible rfl)
  try simp only [Act.put, List.setIfInBounds_toArray, List.set_cons_zero, List.set_cons_succ]
  refine take_op (i := 1) (d := 4) (OP := Op.load 23 (Operand.tmp 3)) (T := 23) (v := ?vy9x) rfl rfl rfl rfl (by kernel_rfl) (by kernel_rfl) (by kernel_rfl) (fun _ _ _ h => h) (by rfl) ?hy9x hHeld ?ry9x
  case hy9x => (intro w' hSw; (try dsimp only at hSw); go_simp <;> with_reducible rfl)
  try simp only [Act.put, List.setIfInBounds_toArray, List.set_cons_zero, List.set_cons_succ]
  refine take_op (i := 3) (d := 6) (OP := Op.fieldAddr 25 (Operand.tmp 1) 1) (T := 0) (v := ?vy10x) rfl rfl rfl rfl (by kernel_rfl) (by kernel_rfl) (by kernel_rfl) (fun _ _ _ h => h) (by rfl) ?hy10x hHeld ?ry10x
  case hy10x => (intro w' hSw; (try dsimp only at hSw); go_simp <;> with_reducible rfl)
  try simp only [Act.put, List.setIfInBounds_toArray, List.set_cons_zero, List.set_cons_succ]
  refine take_op (i := 4) (d := 7) (OP := Op.load 2 (Operand.tmp 6)) (T := 2) (v := ?vy11x) rfl rfl rfl rfl (by kernel_rfl) (by kernel_rfl) (by kernel_rfl) (fun _ _ _ h => h) (by rfl) ?hy11x hHeld ?ry11x
  case hy11x => (intro w' hSw; (try dsimp only at hSw); go_simp <;> with_reducible rfl)
  try simp only [Act.put, List.setIfInBounds_toArray, List.set_cons_zero, List.set_cons_succ]
  refine take_op (i := 5) (d := 8) (OP := Op.convert 2 54 (Operand.tmp 7)) (T := 54) (v := ?vy12x) rfl rfl rfl rfl (by kernel_rfl) (by kernel_rfl) (by kernel_rfl) (fun _ _ _ h => h) (by rfl) ?hy12x hHeld ?ry12x
  case hy12x => (intro w' hSw; (try dsimp only at hSw); go_simp <;> with_reducible rfl)
  try simp only [Act.put, List.setIfInBounds_toArray, List.set_cons_zero, List.set_cons_succ]
  refine call_op (i := 2) (d := 5) (OP := Op.call { callee := Callee.value (Operand.func 64), args := #[Operand.tmp 4], argTypes := #[23] }) (T := 29) (f := 64) (args := #[bv r l]) rfl rfl rfl rfl (by kernel_rfl) (by rfl) (by go_simp) ?_
  refine (hby _).mono ?_
  rintro e w2 ⟨a1, c1, rfl, hO2, m1, b2⟩
  have hS2 := (And.intro (kept b2 hHeld.1) (And.intro (kept b2 hHeld.2.1) (kept b2 hHeld.2.2)))
  have hB2 := hBW.trans (b2.mono hBW.size)
  refine ⟨_, rfl, hS2, ?_⟩
  replace hHeld := hS2
  try simp only [Act.put, List.setIfInBounds_toArray, List.set_cons_zero, List.set_cons_succ]
  refine call_op (i := 6) (d := 9) (OP := Op.call { callee := Callee.value (Operand.func 106), args := #[Operand.tmp 8], argTypes := #[54] }) (T := 29) (f := 106) (args := #[.int .u64 n]) rfl rfl rfl rfl (by kernel_rfl) (by rfl) (by go_simp) ?_
  refine (hn _).mono ?_
  rintro e w6 ⟨a6, c6, rfl, hO6, m6, b6⟩
  have hS6 := (And.intro (kept b6 hHeld.1) (And.intro (kept b6 hHeld.2.1) (kept b6 hHeld.2.2)))
  have hB6 := hB2.trans (b6.mono hB2.size)
  have hR1 := hO2.rd.below b6
  refine ⟨_, rfl, hS6, ?_⟩
  replace hHeld := hS6
  try simp only [Act.put, List.setIfInBounds_toArray, List.set_cons_zero, List.set_cons_succ]
  refine turn_op (i := 7) (d := 10) (OP := Op.buildSlice 152 2 #[(0, Operand.tmp 5), (1, Operand.tmp 9)]) (T := 152) (v := .slice (some ⟨w6.heap.size, 0, none⟩) 2 2) (w' := (w6.alloc (.cells #[.slice a1 (brL r l).length c1, .slice a6 (Plain.numL n.toNat).length c6] 29))) rfl rfl rfl rfl (by kernel_rfl) (by rfl) (exec_two rfl rfl) (And.intro (kept (below_new w6 (.cells #[.slice a1 (brL r l).length c1, .slice a6 (Plain.numL n.toNat).length c6] 29)) hHeld.1) (And.intro (kept (below_new w6 (.cells #[.slice a1 (brL r l).length c1, .slice a6 (Plain.numL n.toNat).length c6] 29)) hHeld.2.1) (kept (below_new w6 (.cells #[.slice a1 (brL r l).length c1, .slice a6 (Plain.numL n.toNat).length c6] 29)) hHeld.2.2))) ?_
  replace hHeld := (And.intro (kept (below_new w6 (.cells #[.slice a1 (brL r l).length c1, .slice a6 (Plain.numL n.toNat).length c6] 29)) hHeld.1) (And.intro (kept (below_new w6 (.cells #[.slice a1 (brL r l).length c1, .slice a6 (Plain.numL n.toNat).length c6] 29)) hHeld.2.1) (kept (below_new w6 (.cells #[.slice a1 (brL r l).length c1, .slice a6 (Plain.numL n.toNat).length c6] 29)) hHeld.2.2)))
  try simp only [Act.put, List.setIfInBounds_toArray, List.set_cons_zero, List.set_cons_succ]
  refine call_op (i := 8) (d := 11) (OP := Op.call { callee := Callee.value (Operand.func 105), args := #[Operand.tmp 10], argTypes := #[152] }) (T := 29) (f := 105) (args := #[.slice (some ⟨w6.heap.size, 0, none⟩) 2 2]) rfl rfl rfl rfl (by kernel_rfl) (by rfl) (by go_simp) ?_
  refine (hj w6 a1 a6 c1 c6 hR1 hO6.rd m1 m6).mono ?_
  rintro e w9 ⟨a9, c9, rfl, hO9, n9, b9⟩
  have hS9 := (And.intro (kept b9 hS6.1) (And.intro (kept b9 hS6.2.1) (kept b9 hS6.2.2)))
  have hB9 := hB6.trans (b9.mono hB6.size)
  refine ⟨_, rfl, hS9, ?_⟩
  replace hHeld := hS9
  try simp only [Act.put, List.setIfInBounds_toArray, List.set_cons_zero, List.set_cons_succ]
  refine take_op (i := 9) (d := 2) (OP := Op.assign (Operand.tmp 11)) (T := 29) (v := ?vy13x) rfl rfl rfl rfl (by kernel_rfl) (by kernel_rfl) (by kernel_rfl) (fun _ _ _ h => h) (by rfl) ?hy13x hHeld ?ry13x
  case hy13x => (intro w' hSw; (try dsimp only at hSw); go_simp <;> with_reducible rfl)
  try simp only [Act.put, List.setIfInBounds_toArray, List.set_cons_zero, List.set_cons_succ]
  refine wpAnyH_done (by kernel_rfl) ?_ _
  go_wp2
  go_ret
  exact ⟨a9, c9, rfl, hO9.lift hB6.size, n9, hB9⟩

set_option maxHeartbeats 2000000 in
set_option maxRecDepth 100000 in
theorem stampForm_any (g r : Int) (l : ByteArray) (n x : Int) (w : World) (h0 : 0 ≤ r) (h1 : r ≤ 9223372036854775807) (hl : l.size ≤ 1000000) (n0 : 0 ≤ n) (n1 : n ≤ 9223372036854775807) (g0 : 0 ≤ g) (g1 : g ≤ 9223372036854775807) (x0 : 0 ≤ x) (x1 : x ≤ 9223372036854775807) : Calls Tryz.prog 60 #[sv g r l n x] w fun e w' => Made 5 w w' e (stL g r l n x) := by
  have hb := below_new w (.cells #[.int .i64 g, .int .i64 r, .string l, .int .i64 n, .int .i64 x] 27)
  obtain ⟨p0, p1, p2, p3, p4⟩ := five_new w (.int .i64 g) (.int .i64 r) (.string l) (.int .i64 n) (.int .i64 x) 27
  have wg : IntKind.u64.wrap g = g := by rw [IntKind.wrap_u64]; omega
  have wx : IntKind.u64.wrap x = x := by rw [IntKind.wrap_u64]; omega
  have h10 := Plain.numL_ten g.toNat (by omega)
  have h12 := Plain.numL_ten x.toNat (by omega)
  have h11 := nmL_length r l n h1 hl n1
  have hg : ∀ W, Calls Tryz.prog 106 #[.int .u64 g] W fun e w' => Made 5 W w' e (Plain.numL g.toNat) := fun W => number_int g W g0 (by omega)
  have hx : ∀ W, Calls Tryz.prog 106 #[.int .u64 x] W fun e w' => Made 5 W w' e (Plain.numL x.toNat) := fun W => number_int x W x0 (by omega)
  have hnm : ∀ W, Calls Tryz.prog 62 #[nv r l n] W fun e w' => Made 5 W w' e (nmL r l n) := fun W => nameForm_any r l n W h0 h1 hl n0 n1
  have hj : ∀ (W : World) (a1 a2 a3 : Option Addr) (c1 c2 c3 : Nat), Rd W a1 (Plain.numL g.toNat) → Rd W a2 (nmL r l n) → Rd W a3 (Plain.numL x.toNat) → (a1 = none → c1 = 0) → (a2 = none → c2 = 0) → (a3 = none → c3 = 0) → Calls Tryz.prog 105 #[.slice (some ⟨W.heap.size, 0, none⟩) 3 3] (W.alloc (.cells #[.slice a1 (Plain.numL g.toNat).length c1, .slice a2 (nmL r l n).length c2, .slice a3 (Plain.numL x.toNat).length c3] 29)) fun e w' => Made 5 W w' e (stL g r l n x) := fun W a1 a2 a3 c1 c2 c3 q1 q2 q3 n1 n2 n3 => by
    refine (join_any _ 3 [Plain.numL g.toNat, nmL r l n, Plain.numL x.toNat] _ (Pieces.three a1 a2 a3 c1 c2 c3 _ _ _ 29 q1 q2 q3 n1 n2 n3) (by simp) (by simp; omega)).mono ?_
    intro e w' h
    have := h.intro ((Below.refl _ W).alloc (Nat.le_refl _) _) (by simp)
    simpa [stL] using this
  go_enter Tryz.func60, Tryz.ntmps60
  go_wp2
  generalize (w.alloc (.cells #[.int .i64 g, .int .i64 r, .string l, .int .i64 n, .int .i64 x] 27)) = W0 at hb p0 p1 p2 p3 p4 ⊢
  have hS1 : W0.drew.cell? ⟨w.heap.size, 0, none⟩ = some (.int .i64 g) ∧ W0.drew.cell? ⟨w.heap.size, 1, none⟩ = some (.int .i64 r) ∧ W0.drew.cell? ⟨w.heap.size, 2, none⟩ = some (.string l) ∧ W0.drew.cell? ⟨w.heap.size, 3, none⟩ = some (.int .i64 n) ∧ W0.drew.cell? ⟨w.heap.size, 4, none⟩ = some (.int .i64 x) := ⟨p0, p1, p2, p3, p4⟩
  have hBW : Below w.heap.size w W0.drew := hb.drew
  clear hb p0 p1 p2 p3 p4
  refine wp_region_held_drew (S := (fun w' => w'.cell? ⟨w.heap.size, 0, none⟩ = some (.int .i64 g) ∧ w'.cell? ⟨w.heap.size, 1, none⟩ = some (.int .i64 r) ∧ w'.cell? ⟨w.heap.size, 2, none⟩ = some (.string l) ∧ w'.cell? ⟨w.heap.size, 3, none⟩ = some (.int .i64 n) ∧ w'.cell? ⟨w.heap.size, 4, none⟩ = some (.int .i64 x))) (by kernel_rfl) (by exact hS1) (fun hHeld => ?_)
  try dsimp only at hHeld
  refine take_op (i := 0) (d := 3) (OP := Op.fieldAddr 27 (Operand.tmp 1) 0) (T := 0) (v := ?vy14x) rfl rfl rfl rfl (by kernel_rfl) (by kernel_rfl) (by kernel_rfl) (fun _ _ _ h => h) (by rfl) ?hy14x hHeld ?ry14x
  case hy14x => (intro w' hSw; (try dsimp only at hSw); go_simp <;> with_reducible rfl)
  try simp only [Act.put, List.setIfInBounds_toArray, List.set_cons_zero, List.set_cons_succ]
  refine take_op (i := 1) (d := 4) (OP := Op.load 2 (Operand.tmp 3)) (T := 2) (v := ?vy15x) rfl rfl rfl rfl (by kernel_rfl) (by kernel_rfl) (by kernel_rfl) (fun _ _ _ h => h) (by rfl) ?hy15x hHeld ?ry15x
  case hy15x => (intro w' hSw; (try dsimp only at hSw); go_simp <;> with_reducible rfl)
  try simp only [Act.put, List.setIfInBounds_toArray, List.set_cons_zero, List.set_cons_succ]
  refine take_op (i := 2) (d := 5) (OP := Op.convert 2 54 (Operand.tmp 4)) (T := 54) (v := ?vy16x) rfl rfl rfl rfl (by kernel_rfl) (by kernel_rfl) (by kernel_rfl) (fun _ _ _ h => h) (by rfl) ?hy16x hHeld ?ry16x
  case hy16x => (intro w' hSw; (try dsimp only at hSw); go_simp <;> with_reducible rfl)
  try simp only [Act.put, List.setIfInBounds_toArray, List.set_cons_zero, List.set_cons_succ]
  refine take_op (i := 4) (d := 7) (OP := Op.fieldAddr 27 (Operand.tmp 1) 1) (T := 0) (v := ?vy17x) rfl rfl rfl rfl (by kernel_rfl) (by kernel_rfl) (by kernel_rfl) (fun _ _ _ h => h) (by rfl) ?hy17x hHeld ?ry17x
  case hy17x => (intro w' hSw; (try dsimp only at hSw); go_simp <;> with_reducible rfl)
  try simp only [Act.put, List.setIfInBounds_toArray, List.set_cons_zero, List.set_cons_succ]
  refine take_op (i := 5) (d := 8) (OP := Op.load 25 (Operand.tmp 7)) (T := 25) (v := ?vy18x) rfl rfl rfl rfl (by kernel_rfl) (by kernel_rfl) (by kernel_rfl) (fun _ _ _ h => h) (by rfl) ?hy18x hHeld ?ry18x
  case hy18x => (intro w' hSw; (try dsimp only at hSw); go_simp <;> with_reducible rfl)
  try simp only [Act.put, List.setIfInBounds_toArray, List.set_cons_zero, List.set_cons_succ]
  refine take_op (i := 7) (d := 10) (OP := Op.fieldAddr 27 (Operand.tmp 1) 2) (T := 0) (v := ?vy19x) rfl rfl rfl rfl (by kernel_rfl) (by kernel_rfl) (by kernel_rfl) (fun _ _ _ h => h) (by rfl) ?hy19x hHeld ?ry19x
  case hy19x => (intro w' hSw; (try dsimp only at hSw); go_simp <;> with_reducible rfl)
  try simp only [Act.put, List.setIfInBounds_toArray, List.set_cons_zero, List.set_cons_succ]
  refine take_op (i := 8) (d := 11) (OP := Op.load 3 (Operand.tmp 10)) (T := 3) (v := ?vy20x) rfl rfl rfl rfl (by kernel_rfl) (by kernel_rfl) (by kernel_rfl) (fun _ _ _ h => h) (by rfl) ?hy20x hHeld ?ry20x
  case hy20x => (intro w' hSw; (try dsimp only at hSw); go_simp <;> with_reducible rfl)
  try simp only [Act.put, List.setIfInBounds_toArray, List.set_cons_zero, List.set_cons_succ]
  refine take_op (i := 9) (d := 12) (OP := Op.convert 3 54 (Operand.tmp 11)) (T := 54) (v := ?vy21x) rfl rfl rfl rfl (by kernel_rfl) (by kernel_rfl) (by kernel_rfl) (fun _ _ _ h => h) (by rfl) ?hy21x hHeld ?ry21x
  case hy21x => (intro w' hSw; (try dsimp only at hSw); go_simp <;> with_reducible rfl)
  try simp only [Act.put, List.setIfInBounds_toArray, List.set_cons_zero, List.set_cons_succ]
  refine call_op (i := 3) (d := 6) (OP := Op.call { callee := Callee.value (Operand.func 106), args := #[Operand.tmp 5], argTypes := #[54] }) (T := 29) (f := 106) (args := #[.int .u64 g]) rfl rfl rfl rfl (by kernel_rfl) (by rfl) (by go_simp) ?_
  refine (hg _).mono ?_
  rintro e w2 ⟨a1, c1, rfl, hO2, m1, b2⟩
  have hS2 := (And.intro (kept b2 hHeld.1) (And.intro (kept b2 hHeld.2.1) (And.intro (kept b2 hHeld.2.2.1) (And.intro (kept b2 hHeld.2.2.2.1) (kept b2 hHeld.2.2.2.2)))))
  have hB2 := hBW.trans (b2.mono hBW.size)
  refine ⟨_, rfl, hS2, ?_⟩
  replace hHeld := hS2
  try simp only [Act.put, List.setIfInBounds_toArray, List.set_cons_zero, List.set_cons_succ]
  refine call_op (i := 6) (d := 9) (OP := Op.call { callee := Callee.value (Operand.func 62), args := #[Operand.tmp 8], argTypes := #[25] }) (T := 29) (f := 62) (args := #[nv r l n]) rfl rfl rfl rfl (by kernel_rfl) (by rfl) (by go_simp) ?_
  refine (hnm _).mono ?_
  rintro e w6 ⟨a6, c6, rfl, hO6, m6, b6⟩
  have hS6 := (And.intro (kept b6 hHeld.1) (And.intro (kept b6 hHeld.2.1) (And.intro (kept b6 hHeld.2.2.1) (And.intro (kept b6 hHeld.2.2.2.1) (kept b6 hHeld.2.2.2.2)))))
  have hB6 := hB2.trans (b6.mono hB2.size)
  have hR1 := hO2.rd.below b6
  refine ⟨_, rfl, hS6, ?_⟩
  replace hHeld := hS6
  try simp only [Act.put, List.setIfInBounds_toArray, List.set_cons_zero, List.set_cons_succ]
  refine call_op (i := 10) (d := 13) (OP := Op.call { callee := Callee.value (Operand.func 106), args := #[Operand.tmp 12], argTypes := #[54] }) (T := 29) (f := 106) (args := #[.int .u64 x]) rfl rfl rfl rfl (by kernel_rfl) (by rfl) (by go_simp) ?_
  refine (hx _).mono ?_
  rintro e w8 ⟨a8, c8, rfl, hO8, m8, b8⟩
  have hS8 := (And.intro (kept b8 hHeld.1) (And.intro (kept b8 hHeld.2.1) (And.intro (kept b8 hHeld.2.2.1) (And.intro (kept b8 hHeld.2.2.2.1) (kept b8 hHeld.2.2.2.2)))))
  have hB8 := hB6.trans (b8.mono hB6.size)
  have hR2 := hR1.below b8
  have hR3 := hO6.rd.below b8
  refine ⟨_, rfl, hS8, ?_⟩
  replace hHeld := hS8
  try simp only [Act.put, List.setIfInBounds_toArray, List.set_cons_zero, List.set_cons_succ]
  refine turn_op (i := 11) (d := 14) (OP := Op.buildSlice 152 3 #[(0, Operand.tmp 6), (1, Operand.tmp 9), (2, Operand.tmp 13)]) (T := 152) (v := .slice (some ⟨w8.heap.size, 0, none⟩) 3 3) (w' := (w8.alloc (.cells #[.slice a1 (Plain.numL g.toNat).length c1, .slice a6 (nmL r l n).length c6, .slice a8 (Plain.numL x.toNat).length c8] 29))) rfl rfl rfl rfl (by kernel_rfl) (by rfl) (exec_three rfl rfl rfl) (And.intro (kept (below_new w8 (.cells #[.slice a1 (Plain.numL g.toNat).length c1, .slice a6 (nmL r l n).length c6, .slice a8 (Plain.numL x.toNat).length c8] 29)) hHeld.1) (And.intro (kept (below_new w8 (.cells #[.slice a1 (Plain.numL g.toNat).length c1, .slice a6 (nmL r l n).length c6, .slice a8 (Plain.numL x.toNat).length c8] 29)) hHeld.2.1) (And.intro (kept (below_new w8 (.cells #[.slice a1 (Plain.numL g.toNat).length c1, .slice a6 (nmL r l n).length c6, .slice a8 (Plain.numL x.toNat).length c8] 29)) hHeld.2.2.1) (And.intro (kept (below_new w8 (.cells #[.slice a1 (Plain.numL g.toNat).length c1, .slice a6 (nmL r l n).length c6, .slice a8 (Plain.numL x.toNat).length c8] 29)) hHeld.2.2.2.1) (kept (below_new w8 (.cells #[.slice a1 (Plain.numL g.toNat).length c1, .slice a6 (nmL r l n).length c6, .slice a8 (Plain.numL x.toNat).length c8] 29)) hHeld.2.2.2.2))))) ?_
  replace hHeld := (And.intro (kept (below_new w8 (.cells #[.slice a1 (Plain.numL g.toNat).length c1, .slice a6 (nmL r l n).length c6, .slice a8 (Plain.numL x.toNat).length c8] 29)) hHeld.1) (And.intro (kept (below_new w8 (.cells #[.slice a1 (Plain.numL g.toNat).length c1, .slice a6 (nmL r l n).length c6, .slice a8 (Plain.numL x.toNat).length c8] 29)) hHeld.2.1) (And.intro (kept (below_new w8 (.cells #[.slice a1 (Plain.numL g.toNat).length c1, .slice a6 (nmL r l n).length c6, .slice a8 (Plain.numL x.toNat).length c8] 29)) hHeld.2.2.1) (And.intro (kept (below_new w8 (.cells #[.slice a1 (Plain.numL g.toNat).length c1, .slice a6 (nmL r l n).length c6, .slice a8 (Plain.numL x.toNat).length c8] 29)) hHeld.2.2.2.1) (kept (below_new w8 (.cells #[.slice a1 (Plain.numL g.toNat).length c1, .slice a6 (nmL r l n).length c6, .slice a8 (Plain.numL x.toNat).length c8] 29)) hHeld.2.2.2.2)))))
  try simp only [Act.put, List.setIfInBounds_toArray, List.set_cons_zero, List.set_cons_succ]
  refine call_op (i := 12) (d := 15) (OP := Op.call { callee := Callee.value (Operand.func 105), args := #[Operand.tmp 14], argTypes := #[152] }) (T := 29) (f := 105) (args := #[.slice (some ⟨w8.heap.size, 0, none⟩) 3 3]) rfl rfl rfl rfl (by kernel_rfl) (by rfl) (by go_simp) ?_
  refine (hj w8 a1 a6 a8 c1 c6 c8 hR2 hR3 hO8.rd m1 m6 m8).mono ?_
  rintro e w9 ⟨a9, c9, rfl, hO9, n9, b9⟩
  have hS9 := (And.intro (kept b9 hS8.1) (And.intro (kept b9 hS8.2.1) (And.intro (kept b9 hS8.2.2.1) (And.intro (kept b9 hS8.2.2.2.1) (kept b9 hS8.2.2.2.2)))))
  have hB9 := hB8.trans (b9.mono hB8.size)
  refine ⟨_, rfl, hS9, ?_⟩
  replace hHeld := hS9
  try simp only [Act.put, List.setIfInBounds_toArray, List.set_cons_zero, List.set_cons_succ]
  refine take_op (i := 13) (d := 2) (OP := Op.assign (Operand.tmp 15)) (T := 29) (v := ?vy22x) rfl rfl rfl rfl (by kernel_rfl) (by kernel_rfl) (by kernel_rfl) (fun _ _ _ h => h) (by rfl) ?hy22x hHeld ?ry22x
  case hy22x => (intro w' hSw; (try dsimp only at hSw); go_simp <;> with_reducible rfl)
  try simp only [Act.put, List.setIfInBounds_toArray, List.set_cons_zero, List.set_cons_succ]
  refine wpAnyH_done (by kernel_rfl) ?_ _
  go_wp2
  go_ret
  exact ⟨a9, c9, rfl, hO9.lift hB8.size, n9, hB9⟩

/-- Bytes that are read, laid on bytes that are owned. -/
theorem app_own {w : World} {B : Nat} {v : Value} {p l : List Int} {ao : Option Addr} {c : Nat} (hown : Own 5 w B v p) (hc : ao = none → c = 0) (hrd : Rd w ao l) (hbytes : p.length + l.length ≤ 140737488355328) (hB : B ≤ w.heap.size) :
    ∃ a' c' w', (Builtin.append_ #[29, 29] 29 #[v, .slice ao l.length c]).run Tryz.prog w = .ok (.slice a' (p ++ l).length c') w' ∧ Own 5 w' B (.slice a' (p ++ l).length c') (p ++ l) ∧ (a' = none → c' = 0) ∧ Below B w w' := by
  obtain ⟨i0, hi, hz0, hz1, hz2⟩ := info_parts Tryz.info5
  cases ao with
  | none =>
    have hl := hrd.1 rfl
    subst hl
    have hc0 := hc rfl
    subst hc0
    obtain ⟨a', c', rfl, hn⟩ := hown.form
    rw [List.append_nil]
    exact ⟨a', c', w, run_append_owned_none (P := Tryz.prog) (w := w) B 29 29 5 i0 1 Tryz.underlying29 hi _ _ _ hown, hown, hn, Below.refl _ _⟩
  | some ad =>
    obtain ⟨v', w', hr, h2, h3, _⟩ := run_append_own (P := Tryz.prog) w B 29 29 5 i0 (.int .u8 0) 1 1 Tryz.underlying29 hi hz0 hz1 hz2 rfl (by decide) v p.length (u8s p) hown ad l.length c (u8s l) (by simp [u8s]) (fun j u hj => hrd.2 ad rfl j u hj) u8s_one (by unfold maxLen; omega) (by omega) hB
    have hO : Own 5 w' B v' (p ++ l) := by unfold Own; rw [u8s_append, List.length_append]; exact h2
    obtain ⟨a', c', rfl, hn⟩ := hO.form
    exact ⟨a', c', w', hr, hO, hn, (Below.refl B w).grown h3 hB (fun k hk => (World.ownsRow.lt hown k hk).1)⟩

set_option maxHeartbeats 2000000 in
set_option maxRecDepth 100000 in
theorem refPutBranch_any (r : Int) (l : ByteArray) (w : World) (h0 : 0 ≤ r) (h1 : r ≤ 9223372036854775807) (hl : l.size ≤ 1000000) : Calls Tryz.prog 29 #[bv r l] w fun e w' => Made 5 w w' e (brL r l) := by
  have hb := below_new w (.cells #[.int .i64 r, .string l] 23)
  obtain ⟨p0, p1⟩ := two_new w (.int .i64 r) (.string l) 23
  have wr : IntKind.u64.wrap r = r := by rw [IntKind.wrap_u64]; omega
  have h10 := Plain.numL_ten r.toNat (by omega)
  have h11 := Plain.numL_ten l.size (by omega)
  have hn : ∀ W, Calls Tryz.prog 75 #[.int .u64 r] W fun e w' => Made 5 W w' e (Plain.numL r.toNat) := fun W => refNumber_int r W h0 (by omega)
  have hby : ∀ (W : World) (a : Addr) (c : Nat), Rd W (some a) (ints l.data.toList) → Calls Tryz.prog 78 #[.slice (some a) l.size c] W fun e w' => Made 5 W w' e (Plain.numL l.size ++ ints l.data.toList) := fun W a c hr => by
    have := refBytes_any (some a) c (ints l.data.toList) W hr (by intro e; cases e) (by rw [ints_size]; omega)
    rw [ints_size] at this
    exact this
  have hap : ∀ (W : World) (v : Value) (a2 : Option Addr) (c2 : Nat), Own 5 W (w.heap.size + 1) v (Plain.numL r.toNat) → Rd W a2 (Plain.numL l.size ++ ints l.data.toList) → (a2 = none → c2 = 0) → w.heap.size + 1 ≤ W.heap.size → ∃ a' c' w', (Builtin.append_ #[29, 29] 29 #[v, .slice a2 (Plain.numL l.size ++ ints l.data.toList).length c2]).run Tryz.prog W = .ok (.slice a' (brL r l).length c') w' ∧ Own 5 w' (w.heap.size + 1) (.slice a' (brL r l).length c') (brL r l) ∧ (a' = none → c' = 0) ∧ Below (w.heap.size + 1) W w' := fun W v a2 c2 q1 q2 n2 hs => by
    have := app_own q1 n2 q2 (by rw [List.length_append, ints_size]; omega) hs
    exact this
  go_enter Tryz.func29, Tryz.ntmps29
  go_wp2
  have hs0 : (w.alloc (.cells #[.int .i64 r, .string l] 23)).heap.size = w.heap.size + 1 := by simp
  generalize (w.alloc (.cells #[.int .i64 r, .string l] 23)) = W0 at hb p0 p1 hs0 ⊢
  have hS1 : W0.drew.cell? ⟨w.heap.size, 0, none⟩ = some (.int .i64 r) ∧ W0.drew.cell? ⟨w.heap.size, 1, none⟩ = some (.string l) := ⟨p0, p1⟩
  have hBW : Below w.heap.size w W0.drew := hb.drew
  have hsd : W0.drew.heap.size = w.heap.size + 1 := hs0
  clear hb p0 p1
  refine wp_region_held_drew (S := (fun w' => w'.cell? ⟨w.heap.size, 0, none⟩ = some (.int .i64 r) ∧ w'.cell? ⟨w.heap.size, 1, none⟩ = some (.string l))) (by kernel_rfl) (by exact hS1) (fun hHeld => ?_)
  try dsimp only at hHeld
  refine take_op (i := 0) (d := 3) (OP := Op.fieldAddr 23 (Operand.tmp 1) 0) (T := 0) (v := ?vy23x) rfl rfl rfl rfl (by kernel_rfl) (by kernel_rfl) (by kernel_rfl) (fun _ _ _ h => h) (by rfl) ?hy23x hHeld ?ry23x
  case hy23x => (intro w' hSw; (try dsimp only at hSw); go_simp <;> with_reducible rfl)
  try simp only [Act.put, List.setIfInBounds_toArray, List.set_cons_zero, List.set_cons_succ]
  refine take_op (i := 1) (d := 4) (OP := Op.load 3 (Operand.tmp 3)) (T := 3) (v := ?vy24x) rfl rfl rfl rfl (by kernel_rfl) (by kernel_rfl) (by kernel_rfl) (fun _ _ _ h => h) (by rfl) ?hy24x hHeld ?ry24x
  case hy24x => (intro w' hSw; (try dsimp only at hSw); go_simp <;> with_reducible rfl)
  try simp only [Act.put, List.setIfInBounds_toArray, List.set_cons_zero, List.set_cons_succ]
  refine take_op (i := 2) (d := 5) (OP := Op.convert 3 54 (Operand.tmp 4)) (T := 54) (v := ?vy25x) rfl rfl rfl rfl (by kernel_rfl) (by kernel_rfl) (by kernel_rfl) (fun _ _ _ h => h) (by rfl) ?hy25x hHeld ?ry25x
  case hy25x => (intro w' hSw; (try dsimp only at hSw); go_simp <;> with_reducible rfl)
  try simp only [Act.put, List.setIfInBounds_toArray, List.set_cons_zero, List.set_cons_succ]
  refine take_op (i := 4) (d := 7) (OP := Op.fieldAddr 23 (Operand.tmp 1) 1) (T := 0) (v := ?vy26x) rfl rfl rfl rfl (by kernel_rfl) (by kernel_rfl) (by kernel_rfl) (fun _ _ _ h => h) (by rfl) ?hy26x hHeld ?ry26x
  case hy26x => (intro w' hSw; (try dsimp only at hSw); go_simp <;> with_reducible rfl)
  try simp only [Act.put, List.setIfInBounds_toArray, List.set_cons_zero, List.set_cons_succ]
  refine take_op (i := 5) (d := 8) (OP := Op.load 9 (Operand.tmp 7)) (T := 9) (v := ?vy27x) rfl rfl rfl rfl (by kernel_rfl) (by kernel_rfl) (by kernel_rfl) (fun _ _ _ h => h) (by rfl) ?hy27x hHeld ?ry27x
  case hy27x => (intro w' hSw; (try dsimp only at hSw); go_simp <;> with_reducible rfl)
  try simp only [Act.put, List.setIfInBounds_toArray, List.set_cons_zero, List.set_cons_succ]
  obtain ⟨cc, Wc, hcv, hRc, bc⟩ := conv_str l W0.drew
  refine call_turn_op (i := 3) (di := 6) (OPi := Op.call { callee := Callee.value (Operand.func 75), args := #[Operand.tmp 5], argTypes := #[54] }) (Ti := 29) (j := 6) (dj := 9) (OPj := Op.convert 9 29 (Operand.tmp 8)) (Tj := 29) (f := 75) (args := #[.int .u64 r]) (u := .slice (some ⟨W0.drew.heap.size, 0, none⟩) l.size cc) (w' := Wc) rfl rfl rfl rfl rfl rfl rfl rfl (by kernel_rfl) (by rfl) (by rfl) (by go_simp) (exec_conv rfl hcv) (And.intro (kept bc hHeld.1) (kept bc hHeld.2)) ?_ ?_
  · refine (hn _).mono ?_
    rintro e w3 ⟨a1, c1, rfl, hO3, n1, b3⟩
    have hS3 := (And.intro (kept b3 hHeld.1) (kept b3 hHeld.2))
    have hB3 := hBW.trans (b3.mono hBW.size)
    refine ⟨_, rfl, hS3, ?_⟩
    replace hHeld := hS3
    try simp only [Act.put, List.setIfInBounds_toArray, List.set_cons_zero, List.set_cons_succ]
    obtain ⟨cd, Wd, hcd, hRd, bd⟩ := conv_str l w3
    refine turn_op (i := 6) (d := 9) (OP := Op.convert 9 29 (Operand.tmp 8)) (T := 29) (v := .slice (some ⟨w3.heap.size, 0, none⟩) l.size cd) (w' := Wd) rfl rfl rfl rfl (by kernel_rfl) (by rfl) (exec_conv rfl hcd) (And.intro (kept bd hHeld.1) (kept bd hHeld.2)) ?_
    replace hHeld := (And.intro (kept bd hHeld.1) (kept bd hHeld.2))
    try simp only [Act.put, List.setIfInBounds_toArray, List.set_cons_zero, List.set_cons_succ]
    have hBd := hB3.trans (bd.mono hB3.size)
    have hz1 := b3.size
    have hz2 := bd.size
    refine call_op (i := 7) (d := 10) (OP := Op.call { callee := Callee.value (Operand.func 78), args := #[Operand.tmp 9], argTypes := #[29] }) (T := 29) (f := 78) (args := #[.slice (some ⟨w3.heap.size, 0, none⟩) l.size cd]) rfl rfl rfl rfl (by kernel_rfl) (by rfl) (by go_simp) ?_
    refine (hby _ _ _ hRd).mono ?_
    rintro e w7 ⟨a7, c7, rfl, hO7, n7, b7⟩
    have hS7 := (And.intro (kept b7 hHeld.1) (kept b7 hHeld.2))
    have hO1 := (hO3.below bd).below b7
    have hB7 := (hBd).trans (b7.mono (hBd).size)
    refine ⟨_, rfl, hS7, ?_⟩
    replace hHeld := hS7
    try simp only [Act.put, List.setIfInBounds_toArray, List.set_cons_zero, List.set_cons_succ]
    obtain ⟨a9, c9, w9, run9, hO9, n9, b9⟩ := hap w7 _ a7 c7 (hO1.lift (by omega)) hO7.rd n7 (by have := b7.size; omega)
    have hS9 : w9.cell? ⟨w.heap.size, 0, none⟩ = some (.int .i64 r) ∧ w9.cell? ⟨w.heap.size, 1, none⟩ = some (.string l) := ⟨(b9.cell (by simp)).trans hS7.1, (b9.cell (by simp)).trans hS7.2⟩
    refine turn_op (i := 8) (d := 11) (OP := Op.call { callee := Callee.builtin Builtin.append, args := #[Operand.tmp 6, Operand.tmp 10], argTypes := #[29, 29] }) (T := 29) (v := .slice a9 (brL r l).length c9) (w' := w9) rfl rfl rfl rfl (by kernel_rfl) (by rfl) (exec_append rfl rfl run9) hS9 ?_
    replace hHeld := hS9
    try simp only [Act.put, List.setIfInBounds_toArray, List.set_cons_zero, List.set_cons_succ]
    refine take_op (i := 9) (d := 2) (OP := Op.assign (Operand.tmp 11)) (T := 29) (v := ?vy28x) rfl rfl rfl rfl (by kernel_rfl) (by kernel_rfl) (by kernel_rfl) (fun _ _ _ h => h) (by rfl) ?hy28x hHeld ?ry28x
    case hy28x => (intro w' hSw; (try dsimp only at hSw); go_simp <;> with_reducible rfl)
    try simp only [Act.put, List.setIfInBounds_toArray, List.set_cons_zero, List.set_cons_succ]
    refine wpAnyH_done (by kernel_rfl) ?_ _
    go_wp2
    go_ret
    exact ⟨a9, c9, rfl, hO9.lift (by omega), n9, hB7.trans (b9.mono (by omega))⟩
  · try simp only [Act.put, List.setIfInBounds_toArray, List.set_cons_zero, List.set_cons_succ]
    replace hHeld : Wc.cell? ⟨w.heap.size, 0, none⟩ = some (.int .i64 r) ∧ Wc.cell? ⟨w.heap.size, 1, none⟩ = some (.string l) := (And.intro (kept bc hHeld.1) (kept bc hHeld.2))
    have hBc := hBW.trans (bc.mono hBW.size)
    refine call_op (i := 3) (d := 6) (OP := Op.call { callee := Callee.value (Operand.func 75), args := #[Operand.tmp 5], argTypes := #[54] }) (T := 29) (f := 75) (args := #[.int .u64 r]) rfl rfl rfl rfl (by kernel_rfl) (by rfl) (by go_simp) ?_
    refine (hn _).mono ?_
    rintro e w3 ⟨a1, c1, rfl, hO3, n1, b3⟩
    have hS3 := (And.intro (kept b3 hHeld.1) (kept b3 hHeld.2))
    have hB3 := hBc.trans (b3.mono hBc.size)
    have hz1 := bc.size
    have hz2 := b3.size
    refine ⟨_, rfl, hS3, ?_⟩
    replace hHeld := hS3
    try simp only [Act.put, List.setIfInBounds_toArray, List.set_cons_zero, List.set_cons_succ]
    refine call_op (i := 7) (d := 10) (OP := Op.call { callee := Callee.value (Operand.func 78), args := #[Operand.tmp 9], argTypes := #[29] }) (T := 29) (f := 78) (args := #[.slice (some ⟨W0.drew.heap.size, 0, none⟩) l.size cc]) rfl rfl rfl rfl (by kernel_rfl) (by rfl) (by go_simp) ?_
    refine (hby _ _ _ (hRc.below b3)).mono ?_
    rintro e w7 ⟨a7, c7, rfl, hO7, n7, b7⟩
    have hS7 := (And.intro (kept b7 hHeld.1) (kept b7 hHeld.2))
    have hO1 := (hO3).below b7
    have hB7 := (hB3).trans (b7.mono (hB3).size)
    refine ⟨_, rfl, hS7, ?_⟩
    replace hHeld := hS7
    try simp only [Act.put, List.setIfInBounds_toArray, List.set_cons_zero, List.set_cons_succ]
    obtain ⟨a9, c9, w9, run9, hO9, n9, b9⟩ := hap w7 _ a7 c7 (hO1.lift (by omega)) hO7.rd n7 (by have := b7.size; omega)
    have hS9 : w9.cell? ⟨w.heap.size, 0, none⟩ = some (.int .i64 r) ∧ w9.cell? ⟨w.heap.size, 1, none⟩ = some (.string l) := ⟨(b9.cell (by simp)).trans hS7.1, (b9.cell (by simp)).trans hS7.2⟩
    refine turn_op (i := 8) (d := 11) (OP := Op.call { callee := Callee.builtin Builtin.append, args := #[Operand.tmp 6, Operand.tmp 10], argTypes := #[29, 29] }) (T := 29) (v := .slice a9 (brL r l).length c9) (w' := w9) rfl rfl rfl rfl (by kernel_rfl) (by rfl) (exec_append rfl rfl run9) hS9 ?_
    replace hHeld := hS9
    try simp only [Act.put, List.setIfInBounds_toArray, List.set_cons_zero, List.set_cons_succ]
    refine take_op (i := 9) (d := 2) (OP := Op.assign (Operand.tmp 11)) (T := 29) (v := ?vy29x) rfl rfl rfl rfl (by kernel_rfl) (by kernel_rfl) (by kernel_rfl) (fun _ _ _ h => h) (by rfl) ?hy29x hHeld ?ry29x
    case hy29x => (intro w' hSw; (try dsimp only at hSw); go_simp <;> with_reducible rfl)
    try simp only [Act.put, List.setIfInBounds_toArray, List.set_cons_zero, List.set_cons_succ]
    refine wpAnyH_done (by kernel_rfl) ?_ _
    go_wp2
    go_ret
    exact ⟨a9, c9, rfl, hO9.lift (by omega), n9, hB7.trans (b9.mono (by omega))⟩
set_option maxHeartbeats 2000000 in
set_option maxRecDepth 100000 in
theorem refPutName_any (r : Int) (l : ByteArray) (n : Int) (w : World) (h0 : 0 ≤ r) (h1 : r ≤ 9223372036854775807) (hl : l.size ≤ 1000000) (n0 : 0 ≤ n) (n1 : n ≤ 9223372036854775807) : Calls Tryz.prog 27 #[nv r l n] w fun e w' => Made 5 w w' e (nmL r l n) := by
  have hb := below_new w (.cells #[.int .i64 r, .string l, .int .i64 n] 25)
  obtain ⟨p0, p1, p2⟩ := three_new w (.int .i64 r) (.string l) (.int .i64 n) 25
  have wn : IntKind.u64.wrap n = n := by rw [IntKind.wrap_u64]; omega
  have h10 := Plain.numL_ten n.toNat (by omega)
  have h11 := brL_length r l h1 hl
  have hn : ∀ W, Calls Tryz.prog 75 #[.int .u64 n] W fun e w' => Made 5 W w' e (Plain.numL n.toNat) := fun W => refNumber_int n W n0 (by omega)
  have hby : ∀ W, Calls Tryz.prog 29 #[bv r l] W fun e w' => Made 5 W w' e (brL r l) := fun W => refPutBranch_any r l W h0 h1 hl
  have hap : ∀ (W : World) (v : Value) (a2 : Option Addr) (c2 : Nat), Own 5 W (w.heap.size + 1) v (brL r l) → Rd W a2 (Plain.numL n.toNat) → (a2 = none → c2 = 0) → w.heap.size + 1 ≤ W.heap.size → ∃ a' c' w', (Builtin.append_ #[29, 29] 29 #[v, .slice a2 (Plain.numL n.toNat).length c2]).run Tryz.prog W = .ok (.slice a' (nmL r l n).length c') w' ∧ Own 5 w' (w.heap.size + 1) (.slice a' (nmL r l n).length c') (nmL r l n) ∧ (a' = none → c' = 0) ∧ Below (w.heap.size + 1) W w' := fun W v a2 c2 q1 q2 n2 hs => by
    have := app_own q1 n2 q2 (by omega) hs
    exact this
  go_enter Tryz.func27, Tryz.ntmps27
  go_wp2
  have hs0 : (w.alloc (.cells #[.int .i64 r, .string l, .int .i64 n] 25)).heap.size = w.heap.size + 1 := by simp
  generalize (w.alloc (.cells #[.int .i64 r, .string l, .int .i64 n] 25)) = W0 at hb p0 p1 p2 hs0 ⊢
  have hS1 : W0.drew.cell? ⟨w.heap.size, 0, none⟩ = some (.int .i64 r) ∧ W0.drew.cell? ⟨w.heap.size, 1, none⟩ = some (.string l) ∧ W0.drew.cell? ⟨w.heap.size, 2, none⟩ = some (.int .i64 n) := ⟨p0, p1, p2⟩
  have hBW : Below w.heap.size w W0.drew := hb.drew
  have hsd : W0.drew.heap.size = w.heap.size + 1 := hs0
  clear hb p0 p1 p2
  refine wp_region_held_drew (S := (fun w' => w'.cell? ⟨w.heap.size, 0, none⟩ = some (.int .i64 r) ∧ w'.cell? ⟨w.heap.size, 1, none⟩ = some (.string l) ∧ w'.cell? ⟨w.heap.size, 2, none⟩ = some (.int .i64 n))) (by kernel_rfl) (by exact hS1) (fun hHeld => ?_)
  try dsimp only at hHeld
  refine take_op (i := 0) (d := 3) (OP := Op.fieldAddr 25 (Operand.tmp 1) 0) (T := 0) (v := ?vy30x) rfl rfl rfl rfl (by kernel_rfl) (by kernel_rfl) (by kernel_rfl) (fun _ _ _ h => h) (by rfl) ?hy30x hHeld ?ry30x
  case hy30x => (intro w' hSw; (try dsimp only at hSw); go_simp <;> with_reducible rfl)
  try simp only [Act.put, List.setIfInBounds_toArray, List.set_cons_zero, List.set_cons_succ]
  refine take_op (i := 1) (d := 4) (OP := Op.load 23 (Operand.tmp 3)) (T := 23) (v := ?vy31x) rfl rfl rfl rfl (by kernel_rfl) (by kernel_rfl) (by kernel_rfl) (fun _ _ _ h => h) (by rfl) ?hy31x hHeld ?ry31x
  case hy31x => (intro w' hSw; (try dsimp only at hSw); go_simp <;> with_reducible rfl)
  try simp only [Act.put, List.setIfInBounds_toArray, List.set_cons_zero, List.set_cons_succ]
  refine take_op (i := 3) (d := 6) (OP := Op.fieldAddr 25 (Operand.tmp 1) 1) (T := 0) (v := ?vy32x) rfl rfl rfl rfl (by kernel_rfl) (by kernel_rfl) (by kernel_rfl) (fun _ _ _ h => h) (by rfl) ?hy32x hHeld ?ry32x
  case hy32x => (intro w' hSw; (try dsimp only at hSw); go_simp <;> with_reducible rfl)
  try simp only [Act.put, List.setIfInBounds_toArray, List.set_cons_zero, List.set_cons_succ]
  refine take_op (i := 4) (d := 7) (OP := Op.load 2 (Operand.tmp 6)) (T := 2) (v := ?vy33x) rfl rfl rfl rfl (by kernel_rfl) (by kernel_rfl) (by kernel_rfl) (fun _ _ _ h => h) (by rfl) ?hy33x hHeld ?ry33x
  case hy33x => (intro w' hSw; (try dsimp only at hSw); go_simp <;> with_reducible rfl)
  try simp only [Act.put, List.setIfInBounds_toArray, List.set_cons_zero, List.set_cons_succ]
  refine take_op (i := 5) (d := 8) (OP := Op.convert 2 54 (Operand.tmp 7)) (T := 54) (v := ?vy34x) rfl rfl rfl rfl (by kernel_rfl) (by kernel_rfl) (by kernel_rfl) (fun _ _ _ h => h) (by rfl) ?hy34x hHeld ?ry34x
  case hy34x => (intro w' hSw; (try dsimp only at hSw); go_simp <;> with_reducible rfl)
  try simp only [Act.put, List.setIfInBounds_toArray, List.set_cons_zero, List.set_cons_succ]
  refine call_op (i := 2) (d := 5) (OP := Op.call { callee := Callee.value (Operand.func 29), args := #[Operand.tmp 4], argTypes := #[23] }) (T := 29) (f := 29) (args := #[bv r l]) rfl rfl rfl rfl (by kernel_rfl) (by rfl) (by go_simp) ?_
  refine (hby _).mono ?_
  rintro e w2 ⟨a1, c1, rfl, hO2, m1, b2⟩
  have hS2 := (And.intro (kept b2 hHeld.1) (And.intro (kept b2 hHeld.2.1) (kept b2 hHeld.2.2)))
  have hB2 := hBW.trans (b2.mono hBW.size)
  refine ⟨_, rfl, hS2, ?_⟩
  replace hHeld := hS2
  try simp only [Act.put, List.setIfInBounds_toArray, List.set_cons_zero, List.set_cons_succ]
  refine call_op (i := 6) (d := 9) (OP := Op.call { callee := Callee.value (Operand.func 75), args := #[Operand.tmp 8], argTypes := #[54] }) (T := 29) (f := 75) (args := #[.int .u64 n]) rfl rfl rfl rfl (by kernel_rfl) (by rfl) (by go_simp) ?_
  refine (hn _).mono ?_
  rintro e w6 ⟨a6, c6, rfl, hO6, m6, b6⟩
  have hS6 := (And.intro (kept b6 hHeld.1) (And.intro (kept b6 hHeld.2.1) (kept b6 hHeld.2.2)))
  have hB6 := hB2.trans (b6.mono hB2.size)
  have hO1 := hO2.below b6
  refine ⟨_, rfl, hS6, ?_⟩
  replace hHeld := hS6
  try simp only [Act.put, List.setIfInBounds_toArray, List.set_cons_zero, List.set_cons_succ]
  have hz1 := b2.size
  have hz2 := b6.size
  obtain ⟨a9, c9, w9, run9, hO9, n9, b9⟩ := hap w6 _ a6 c6 (hO1.lift (by omega)) hO6.rd m6 (by omega)
  have hS9 : w9.cell? ⟨w.heap.size, 0, none⟩ = some (.int .i64 r) ∧ w9.cell? ⟨w.heap.size, 1, none⟩ = some (.string l) ∧ w9.cell? ⟨w.heap.size, 2, none⟩ = some (.int .i64 n) := ⟨(b9.cell (by simp)).trans hS6.1, (b9.cell (by simp)).trans hS6.2.1, (b9.cell (by simp)).trans hS6.2.2⟩
  refine turn_op (i := 7) (d := 10) (OP := Op.call { callee := Callee.builtin Builtin.append, args := #[Operand.tmp 5, Operand.tmp 9], argTypes := #[29, 29] }) (T := 29) (v := .slice a9 (nmL r l n).length c9) (w' := w9) rfl rfl rfl rfl (by kernel_rfl) (by rfl) (exec_append rfl rfl run9) hS9 ?_
  replace hHeld := hS9
  try simp only [Act.put, List.setIfInBounds_toArray, List.set_cons_zero, List.set_cons_succ]
  refine take_op (i := 8) (d := 2) (OP := Op.assign (Operand.tmp 10)) (T := 29) (v := ?vy35x) rfl rfl rfl rfl (by kernel_rfl) (by kernel_rfl) (by kernel_rfl) (fun _ _ _ h => h) (by rfl) ?hy35x hHeld ?ry35x
  case hy35x => (intro w' hSw; (try dsimp only at hSw); go_simp <;> with_reducible rfl)
  try simp only [Act.put, List.setIfInBounds_toArray, List.set_cons_zero, List.set_cons_succ]
  refine wpAnyH_done (by kernel_rfl) ?_ _
  go_wp2
  go_ret
  exact ⟨a9, c9, rfl, hO9.lift (by omega), n9, hB6.trans (b9.mono (by omega))⟩
end Go.Proofs.YtkjabnpniingnaaGreatDoor
