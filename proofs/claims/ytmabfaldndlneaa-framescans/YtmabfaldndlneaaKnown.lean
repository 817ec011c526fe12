/-
  THE CHAPTER's OWN ROWS: known.
-/
import Derived.Test.YtmabfaldndlneaaPut
import Derived.Laws.MakeOwn
namespace Go.Proofs.Ytmabfaldndlneaa
open Go.RowKit Go.Shelf Crc
set_option linter.unusedSimpArgs false

theorem len4_frm {k : Int} {l t : List Int} (hl : l.length ≤ 16777216) : len4 (frm k l ++ t) = l.length := by
  simp [len4, frm, head, hd5, w4]
  omega
theorem drop_frm (k : Int) (l t : List Int) : (frm k l ++ t).drop 9 = l ++ t := by
  have : (head k l).length = 9 := head_length k l
  rw [frm, List.append_assoc, List.drop_append_of_le_length (by omega), List.drop_of_length_le (by omega), List.nil_append]
theorem take_frm (k : Int) (l t : List Int) : (frm k l ++ t).take 9 = head k l := by
  have : (head k l).length = 9 := head_length k l
  rw [frm, List.append_assoc, List.take_append_of_le_length (by omega), List.take_of_length_le (by omega)]
theorem fst_frm {k : Int} {l t : List Int} (hl : l.length ≤ 16777216) : fst (frm k l ++ t) = ⟨k, l⟩ := by
  unfold fst
  rw [drop_frm, len4_frm hl]
  simp [frm, head, hd5]
theorem why_frm {k : Int} {l t : List Int} (hl : l.length ≤ 16777216) : why (frm k l ++ t) = 0 := by
  have h1 : (frm k l ++ t).length = 9 + l.length + t.length := by simp [frm, head_length]; omega
  refine why_good (by omega) (by rw [len4_frm hl]; omega) (by rw [len4_frm hl]; omega) ?_
  rw [take_frm, drop_frm, len4_frm hl]
  simp [frm, head, hd5]
def b12 : List Int := frm 1 [97] ++ [0, 0]
theorem b12_length : b12.length = 12 := rfl
theorem b12_frs : frs b12 0 = [(0, ⟨1, [97]⟩)] ∧ fend b12 0 = 10 := by
  have h0 : 0 < b12.length ∧ why (b12.drop 0) = 0 := ⟨by decide, why_frm (by simp)⟩
  have hf : fst (b12.drop 0) = ⟨1, [97]⟩ := fst_frm (by simp)
  have h1 : ¬ (10 < b12.length ∧ why (b12.drop 10) = 0) := by
    rw [why_few (by rw [List.length_drop, b12_length]; omega)]
    simp
  rw [frs_yes h0, fend_yes h0, hf]
  exact ⟨by rw [show 0 + 9 + ([97] : List Int).length = 10 from rfl, frs_no h1], by rw [show 0 + 9 + ([97] : List Int).length = 10 from rfl, fend_no h1]⟩
theorem b12_FL : FL b12 = [⟨1, [97]⟩] := by rw [FL, b12_frs.1]; rfl
theorem b12_ends : ends b12 = 140 := by
  rw [ends, b12_frs.2, if_neg (by rw [b12_length]; omega)]
  exact why_few (by rw [List.length_drop, b12_length]; omega)
theorem bad9 {b : List Int} (h9 : b.length = 9) (hw : why b ≠ 0) : fend b 0 = 0 ∧ ends b = why b := by
  have h0 : ¬ (0 < b.length ∧ why (b.drop 0) = 0) := fun h => hw h.2
  have hf := fend_no h0
  exact ⟨hf, by rw [ends, hf, if_neg (by omega)]; rfl⟩
theorem zeros_why : why (List.replicate 9 0) = 141 := by decide +kernel
theorem frm_u8 {k : Int} {l : List Int} (hk : 0 ≤ k ∧ k ≤ 255) (hl : U8 l) : U8 (frm k l) := (head_u8 l hk).app hl

theorem make_any (n : Nat) (w : World) (hn : n ≤ 100000000) : ∃ w', (Instr.makeSlice 22 (.int .i64 (n : Int)) (.int .i64 (n : Int))).run Try.prog w = .ok (.slice (some ⟨w.heap.size, 0, none⟩) n n) w' ∧ Below w.heap.size w w' ∧ Own 5 w' w.heap.size (.slice (some ⟨w.heap.size, 0, none⟩) n n) (List.replicate n 0) := by
  obtain ⟨i0, hi, hz0, hz1, hz2⟩ := info_parts Try.info5
  have h := run_make (P := Try.prog) w 22 5 i0 (.int .u8 0) Try.underlying22 hi hz0 .i64 .i64 (n : Int) (n : Int) (by omega) (by omega) (by rw [hz2]; omega) (by omega)
  have e : madeCells (Value.int .u8 0).cells (n * 1) = (u8s (List.replicate n 0)).toArray := by
    rw [← made_u8 n]
  rw [hz1, Int.toNat_natCast, e] at h
  exact ⟨_, h, (Below.refl _ w).alloc (Nat.le_refl _) _, own_lit w (List.replicate n 0) n (by simp) (by omega)⟩
theorem exec_make {ev : Operand → Value} {x y : Operand} {T : TypeId} {n : Int} {v : Value} {w w' : World} (hx : ev x = .int .i64 n) (hy : ev y = .int .i64 n) (h : (Instr.makeSlice 22 (.int .i64 n) (.int .i64 n)).run Try.prog w = .ok v w') :
    (execOp ev { dst := none, op := .makeSlice 22 x y, type := T, pos := "", after := #[], guard := none }).run Try.prog w = .ok (.value v) w' := by
  unfold execOp
  simp only [hx, hy, Sem.run_bind, h]
  rfl

set_option maxHeartbeats 1000000 in
set_option maxRecDepth 100000 in
theorem known_any (w : World) : Calls Try.prog 5 #[] w fun e w' => e = .returned (.bool true) ∧ Below w.heap.size w w' := by
  obtain ⟨i0, hi, hz0, hz1, hz2⟩ := info_parts Try.info5
  have hu97 : U8 [97] := U8.lit rfl
  have hcc := conv_const w #[.int .u8 97] 1 1 w.heap.size rfl
  have b1 : Below w.heap.size w (w.alloc (.cells #[.int .u8 97] 5 (1, 2))) := (Below.refl _ w).alloc (Nat.le_refl _) _
  have hp := put_yes 1 (some ⟨w.heap.size, 0, none⟩) 1 [97] (w.alloc (.cells #[.int .u8 97] 5 (1, 2))) (by decide) (rd_lit w [97] 5 (1, 2)) (by simp) hu97 (by simp)
  rw [show (frm 1 [97]).length = 10 from rfl] at hp
  have hs1 : (w.alloc (.cells #[.int .u8 97] 5 (1, 2))).heap.size = w.heap.size + 1 := by simp
  have hscan : ∀ w4 ao4 c4 B, Own 5 w4 B (.slice ao4 12 c4) b12 → (ao4 = none → c4 = 0) → Calls Try.prog 6 #[.slice ao4 12 c4] w4 fun e w' => ∃ v xs, e = .returned (.tuple #[v, .int .i64 10, .int .i64 140]) ∧ Fms w' w4.heap.size v [⟨1, [97]⟩] xs ∧ Below w4.heap.size w4 w' := fun w4 ao4 c4 B ho hn => by
    have := scan_any (b := b12) ⟨ho.rd, ho.cap.1, hn, (frm_u8 (by decide) hu97).app (U8.lit rfl)⟩ (fun a ha => (ho.blk a ha).2) (by rw [b12_length]; omega)
    rw [b12_FL, b12_frs.2, b12_ends] at this
    exact this
  have hscan9 : ∀ w4 a B, Own 5 w4 B (.slice (some a) 9 9) (List.replicate 9 0) → Calls Try.prog 6 #[.slice (some a) 9 9] w4 fun e w' => ∃ v, e = .returned (.tuple #[v, .int .i64 0, .int .i64 141]) ∧ Below w4.heap.size w4 w' := fun w4 a B ho => by
    have h9 := bad9 (b := List.replicate 9 0) (by simp) (by rw [zeros_why]; decide)
    have := scan_any (b := List.replicate 9 0) ⟨ho.rd, ho.cap.1, by simp, U8.lit (by decide)⟩ (fun a ha => (ho.blk a ha).2) (by simp)
    rw [h9.1, h9.2, zeros_why] at this
    refine this.mono ?_
    rintro e w' ⟨v, xs, rfl, _, hb⟩
    exact ⟨v, rfl, hb⟩
  have hpno : ∀ w, Calls Try.prog 13 #[.int .i64 256, .slice none 0 0] w _ := fun w => put_no 256 none 0 0 w 2 (by simp [mb, okK]) (by decide)
  go_enter Try.func5, Try.ntmps5
  have tk1 : True := trivial
  have tk2 : True := trivial
  go_wp2_with (first
    | (go_at_call 13; clear tk1; refine hp.mono ?_; rintro e w2 ⟨A, C, rfl, own2, hn2, b2⟩; have hs2 := b2.size)
    | (at_builtin; refine wpList_append_rd (w := w2) rfl (.const (.slice none 0 0)) (.tmp 18) 22 rfl w2.heap.size 5 i0 Try.underlying22 hi hz0 hz1 hz2 _ [] rfl (Own.nil _ _ _) A C (frm 1 [97]) rfl hn2 own2.rd (by simp [frm, head_length]) (Nat.le_refl _) ?_; intro ao3 c3 w3 own3 g3 hn3; have own3' : Own 5 w3 w2.heap.size (.slice ao3 10 c3) (frm 1 [97]) := own3; have b3 : Below w2.heap.size w2 w3 := (Below.refl _ w2).grown g3 (Nat.le_refl _) (fun j hj => by cases hj); have hs3 := b3.size)
    | (at_builtin; refine wpList_append_rd (w := w3.alloc (.cells #[.int .u8 0, .int .u8 0] 5)) rfl (.tmp 19) (.tmp 20) 22 rfl w2.heap.size 5 i0 Try.underlying22 hi hz0 hz1 hz2 _ (frm 1 [97]) rfl (own3'.alloc _) (some ⟨w3.heap.size, 0, none⟩) 2 [0, 0] rfl (by simp) (rd_lit w3 [0, 0] 5 (0, 0)) (by simp [frm, head_length]) (by simp; omega) ?_; intro ao4 c4 w4 own4 g4 hn4; have own4' : Own 5 w4 w2.heap.size (.slice ao4 12 c4) b12 := own4; have b4 : Below w2.heap.size w2 w4 := (b3.alloc (by omega) _).grown g4 (by simp; omega) (fun j hj => (World.ownsRow.lt own3' j hj).1); have hsc := hscan w4 ao4 c4 _ own4' hn4)
    | (go_at_call 6; clear tk2; refine hsc.mono ?_; rintro e w5 ⟨v, xs, rfl, hM, b5⟩; obtain ⟨wm, hm, bm, om⟩ := make_any 9 w5 (by omega); have hsc9 := hscan9 wm _ _ om)
    | refine wpList_turn (OP := Op.makeSlice 22 (.const (.int .i64 9)) (.const (.int .i64 9))) (T := 22) (w' := wm) rfl rfl rfl (exec_make rfl rfl hm) ?_
    | (go_at_call 6; refine hsc9.mono ?_; rintro e w7 ⟨v7, rfl, b7⟩)
    | (go_at_call 13; refine (hpno _).mono ?_; rintro e w8 ⟨rfl, b8⟩))
  have B4 : Below w.heap.size w w4 := (b1.trans (b2.mono (by omega))).trans (b4.mono (by omega))
  have B8 : Below w5.heap.size w5 w8 := (bm.trans (b7.mono bm.size)).trans (b8.mono (Nat.le_trans bm.size b7.size))
  have B28 : Below w2.heap.size w2 w8 := (b4.trans (b5.mono b4.size)).trans (B8.mono (Nat.le_trans b4.size b5.size))
  obtain ⟨ab, cb, x0, x1, hob, _⟩ := hM.it.get 0 _ rfl
  obtain ⟨la, cl, hv, hla, _⟩ := row_form hM.row
  subst hv
  cases la with
  | none => rcases hM.row.2 with ⟨_, q⟩ | ⟨_, _, _, q, _⟩ <;> simp at q
  | some la =>
  obtain ⟨gl, rfl⟩ := hla _ rfl
  have p0 := World.ownsRow.cells hM.row (g := gl) rfl _ _ x0
  have p1 := World.ownsRow.cells hM.row (g := gl) rfl _ _ x1
  rw [add_lit] at p0 p1
  simp only [Nat.mul_zero, Nat.zero_add, List.length_cons, List.length_nil] at p0 p1
  have hS8 : Rd w8.drew A (frm 1 [97]) ∧ w8.drew.cell? ⟨gl, 0, none⟩ = some (.int .i64 1) ∧ w8.drew.cell? ⟨gl, 1, none⟩ = some (.slice ab 1 cb) ∧ Rd w8.drew ab [97] := ⟨(own2.rd.below B28.drew), (B8.cell (World.block_lt_of_cell? _ _ p0)).trans p0, (B8.cell (World.block_lt_of_cell? _ _ p1)).trans p1, hob.rd.below B8.drew⟩
  have b8b : Below w8.drew.heap.size w8.drew (w8.drew.alloc (.cells #[.int .u8 97] 5)) := (Below.refl _ _).alloc (Nat.le_refl _) _
  have b8c : Below w8.drew.heap.size w8.drew (w8.drew.alloc (.cells #[.int .u8 97] 5 (1, 2))) := (Below.refl _ _).alloc (Nat.le_refl _) _
  have hS8b : Rd (w8.drew.alloc (.cells #[.int .u8 97] 5)) A (frm 1 [97]) ∧ (w8.drew.alloc (.cells #[.int .u8 97] 5)).cell? ⟨gl, 0, none⟩ = some (.int .i64 1) ∧ (w8.drew.alloc (.cells #[.int .u8 97] 5)).cell? ⟨gl, 1, none⟩ = some (.slice ab 1 cb) ∧ Rd (w8.drew.alloc (.cells #[.int .u8 97] 5)) ab [97] := ⟨hS8.1.below b8b, (b8b.cell (World.block_lt_of_cell? _ _ hS8.2.1)).trans hS8.2.1, (b8b.cell (World.block_lt_of_cell? _ _ hS8.2.2.1)).trans hS8.2.2.1, hS8.2.2.2.below b8b⟩
  have hS8c : Rd (w8.drew.alloc (.cells #[.int .u8 97] 5 (1, 2))) A (frm 1 [97]) ∧ (w8.drew.alloc (.cells #[.int .u8 97] 5 (1, 2))).cell? ⟨gl, 0, none⟩ = some (.int .i64 1) ∧ (w8.drew.alloc (.cells #[.int .u8 97] 5 (1, 2))).cell? ⟨gl, 1, none⟩ = some (.slice ab 1 cb) ∧ Rd (w8.drew.alloc (.cells #[.int .u8 97] 5 (1, 2))) ab [97] := ⟨hS8.1.below b8c, (b8c.cell (World.block_lt_of_cell? _ _ hS8.2.1)).trans hS8.2.1, (b8c.cell (World.block_lt_of_cell? _ _ hS8.2.2.1)).trans hS8.2.2.1, hS8.2.2.2.below b8c⟩
  have hcc8 : (convert 22 22 (.slice (some ⟨w8.heap.size, 0, none⟩) 1 1)).run Try.prog (w8.alloc (.cells #[.int .u8 97] 5)).drew = .ok (.slice (some ⟨w8.heap.size, 0, none⟩) 1 1) (w8.alloc (.cells #[.int .u8 97] 5 (1, 2))).drew := conv_const w8.drew #[.int .u8 97] 1 1 w8.heap.size rfl
  have hrp := refPut_any 1 (some ⟨w8.heap.size, 0, none⟩) 1 [97] (w8.drew.alloc (.cells #[.int .u8 97] 5 (1, 2))) (by decide) (rd_lit w8.drew [97] 5 (1, 2)) (by simp) hu97 (by simp)
  have HZ := hide (And.intro B4 (And.intro b5 (And.intro B8 b8c)))
  clear p0 p1 x0 x1 hob hM B28 B8 B4 b5 b8b b8c own2 hp hpno hscan hscan9 hsc hsc9
  refine wp_region_held_drew (S := (fun w' => Rd w' A (frm 1 [97]) ∧ w'.cell? ⟨gl, 0, none⟩ = some (.int .i64 1) ∧ w'.cell? ⟨gl, 1, none⟩ = some (.slice ab 1 cb) ∧ Rd w' ab [97])) (by kernel_rfl) (by exact hS8) (fun hHeld => ?_)
  try dsimp only at hHeld
  refine take_op (i := 0) (d := 36) (OP := Op.move (Operand.tmp 1)) (T := 22) (v := ?vq3x) rfl rfl rfl rfl (by kernel_rfl) (by kernel_rfl) (by kernel_rfl) (fun _ _ _ h => h) (by rfl) ?hq3x hHeld ?rq3x
  case hq3x => (intro w' hSw; (try dsimp only at hSw); go_simp <;> with_reducible rfl)
  try simp only [Act.put, List.setIfInBounds_toArray, List.set_cons_zero, List.set_cons_succ]
  refine take_op (i := 1) (d := 37) (OP := Op.convert 22 9 (Operand.tmp 36)) (T := 9) (v := .string (strOfNums (frm 1 [97]))) rfl rfl rfl rfl (by kernel_rfl) (by kernel_rfl) (by kernel_rfl) (fun _ _ _ h => h) (by rfl) ?hz1x hHeld ?rz1x
  case hz1x => (intro w' hSw; have hcv := conv_rd (n := 10) (cap := C) hSw.1 rfl; go_simp)
  try simp only [Act.put, List.setIfInBounds_toArray, List.set_cons_zero, List.set_cons_succ]
  refine turn_op (i := 2) (d := 38) (OP := Op.buildSlice 22 1 #[(0, Operand.const (Value.int IntKind.u8 97))]) (T := 22) (v := .slice (some ⟨w8.heap.size, 0, none⟩) 1 1) (w' := w8.drew.alloc (.cells #[.int .u8 97] 5)) rfl rfl rfl rfl (by kernel_rfl) (by rfl) (by go_simp) hS8b ?_
  replace hHeld := hS8b
  try simp only [Act.put, List.setIfInBounds_toArray, List.set_cons_zero, List.set_cons_succ]
  refine turn_op (i := 3) (d := 39) (OP := Op.convert 22 22 (Operand.tmp 38)) (T := 22) (v := .slice (some ⟨w8.heap.size, 0, none⟩) 1 1) (w' := w8.drew.alloc (.cells #[.int .u8 97] 5 (1, 2))) rfl rfl rfl rfl (by kernel_rfl) (by rfl) (by go_simp) hS8c ?_
  replace hHeld := hS8c
  try simp only [Act.put, List.setIfInBounds_toArray, List.set_cons_zero, List.set_cons_succ]
  refine call_op (i := 4) (d := 40) (OP := Op.call { callee := Callee.value (Operand.func 15), args := #[Operand.const (Value.int IntKind.i64 1), Operand.tmp 39], argTypes := #[3, 22] }) (T := 22) (f := 15) (args := #[.int .i64 1, .slice (some ⟨w8.heap.size, 0, none⟩) 1 1]) rfl rfl rfl rfl (by kernel_rfl) (by rfl) (by go_simp) ?_
  refine (hrp).mono ?_
  rintro e w9 ⟨ao9, c9, rfl, own9, hn9, b9⟩
  have hcv9 := conv_rd (n := (frm 1 [97]).length) (cap := c9) own9.rd rfl
  have hS9 : Rd w9 A (frm 1 [97]) ∧ w9.cell? ⟨gl, 0, none⟩ = some (.int .i64 1) ∧ w9.cell? ⟨gl, 1, none⟩ = some (.slice ab 1 cb) ∧ Rd w9 ab [97] := ⟨hHeld.1.below b9, (b9.cell (World.block_lt_of_cell? _ _ hHeld.2.1)).trans hHeld.2.1, (b9.cell (World.block_lt_of_cell? _ _ hHeld.2.2.1)).trans hHeld.2.2.1, hHeld.2.2.2.below b9⟩
  refine ⟨_, rfl, hS9, ?_⟩
  replace hHeld := hS9
  try simp only [Act.put, List.setIfInBounds_toArray, List.set_cons_zero, List.set_cons_succ]
  refine alone_op (i := 5) (d := 41) (OP := Op.convert 22 9 (Operand.tmp 40)) (T := 9) (v := ?vq8x) rfl rfl rfl rfl (by kernel_rfl) (by rfl) ?hq8x hHeld ?rq8x
  case hq8x => (go_simp <;> with_reducible rfl)
  try simp only [Act.put, List.setIfInBounds_toArray, List.set_cons_zero, List.set_cons_succ]
  refine take_op (i := 6) (d := 42) (OP := Op.binOp BinOp.eql 9 (Operand.tmp 37) (Operand.tmp 41) 9) (T := 4) (v := ?vq9x) rfl rfl rfl rfl (by kernel_rfl) (by kernel_rfl) (by kernel_rfl) (fun _ _ _ h => h) (by rfl) ?hq9x hHeld ?rq9x
  case hq9x => (intro w' hSw; (try dsimp only at hSw); go_simp <;> with_reducible rfl)
  try simp only [Act.put, List.setIfInBounds_toArray, List.set_cons_zero, List.set_cons_succ]
  refine take_op (i := 7) (d := 43) (OP := Op.move (Operand.tmp 42)) (T := 4) (v := ?vq10x) rfl rfl rfl rfl (by kernel_rfl) (by kernel_rfl) (by kernel_rfl) (fun _ _ _ h => h) (by rfl) ?hq10x hHeld ?rq10x
  case hq10x => (intro w' hSw; (try dsimp only at hSw); go_simp <;> with_reducible rfl)
  try simp only [Act.put, List.setIfInBounds_toArray, List.set_cons_zero, List.set_cons_succ]
  refine take_op (i := 8) (d := 44) (OP := Op.move (Operand.tmp 2)) (T := 25) (v := ?vq11x) rfl rfl rfl rfl (by kernel_rfl) (by kernel_rfl) (by kernel_rfl) (fun _ _ _ h => h) (by rfl) ?hq11x hHeld ?rq11x
  case hq11x => (intro w' hSw; (try dsimp only at hSw); go_simp <;> with_reducible rfl)
  try simp only [Act.put, List.setIfInBounds_toArray, List.set_cons_zero, List.set_cons_succ]
  refine call_op (i := 9) (d := 45) (OP := Op.call { callee := Callee.value (Operand.func 8), args := #[Operand.tmp 44], argTypes := #[25] }) (T := 3) (f := 8) (args := #[.int .i64 0]) rfl rfl rfl rfl (by kernel_rfl) (by rfl) (by go_simp) ?_
  refine (num_any 0 w9).mono ?_
  rintro e w10 ⟨rfl, rfl⟩
  refine ⟨_, rfl, hS9, ?_⟩
  replace hHeld := hS9
  try simp only [Act.put, List.setIfInBounds_toArray, List.set_cons_zero, List.set_cons_succ]
  refine take_op (i := 10) (d := 46) (OP := Op.binOp BinOp.eql 3 (Operand.tmp 45) (Operand.const (Value.int IntKind.i64 0)) 3) (T := 4) (v := ?vq13x) rfl rfl rfl rfl (by kernel_rfl) (by kernel_rfl) (by kernel_rfl) (fun _ _ _ h => h) (by rfl) ?hq13x hHeld ?rq13x
  case hq13x => (intro w' hSw; (try dsimp only at hSw); go_simp <;> with_reducible rfl)
  try simp only [Act.put, List.setIfInBounds_toArray, List.set_cons_zero, List.set_cons_succ]
  refine take_op (i := 11) (d := 47) (OP := Op.pick (Operand.tmp 43) (Operand.tmp 46) (Operand.const (Value.bool false))) (T := 4) (v := ?vq14x) rfl rfl rfl rfl (by kernel_rfl) (by kernel_rfl) (by kernel_rfl) (fun _ _ _ h => h) (by rfl) ?hq14x hHeld ?rq14x
  case hq14x => (intro w' hSw; (try dsimp only at hSw); go_simp <;> with_reducible rfl)
  try simp only [Act.put, List.setIfInBounds_toArray, List.set_cons_zero, List.set_cons_succ]
  refine take_op (i := 12) (d := 48) (OP := Op.move (Operand.tmp 47)) (T := 4) (v := ?vq15x) rfl rfl rfl rfl (by kernel_rfl) (by kernel_rfl) (by kernel_rfl) (fun _ _ _ h => h) (by rfl) ?hq15x hHeld ?rq15x
  case hq15x => (intro w' hSw; (try dsimp only at hSw); go_simp <;> with_reducible rfl)
  try simp only [Act.put, List.setIfInBounds_toArray, List.set_cons_zero, List.set_cons_succ]
  refine take_op (i := 13) (d := 49) (OP := Op.move (Operand.tmp 3)) (T := 24) (v := ?vq16x) rfl rfl rfl rfl (by kernel_rfl) (by kernel_rfl) (by kernel_rfl) (fun _ _ _ h => h) (by rfl) ?hq16x hHeld ?rq16x
  case hq16x => (intro w' hSw; (try dsimp only at hSw); go_simp <;> with_reducible rfl)
  try simp only [Act.put, List.setIfInBounds_toArray, List.set_cons_zero, List.set_cons_succ]
  refine take_op (i := 14) (d := 50) (OP := Op.call { callee := Callee.builtin Builtin.len, args := #[Operand.tmp 49], argTypes := #[24] }) (T := 3) (v := ?vq17x) rfl rfl rfl rfl (by kernel_rfl) (by kernel_rfl) (by kernel_rfl) (fun _ _ _ h => h) (by rfl) ?hq17x hHeld ?rq17x
  case hq17x => (intro w' hSw; (try dsimp only at hSw); go_simp <;> with_reducible rfl)
  try simp only [Act.put, List.setIfInBounds_toArray, List.set_cons_zero, List.set_cons_succ]
  refine take_op (i := 15) (d := 51) (OP := Op.binOp BinOp.eql 3 (Operand.tmp 50) (Operand.const (Value.int IntKind.i64 1)) 3) (T := 4) (v := ?vq18x) rfl rfl rfl rfl (by kernel_rfl) (by kernel_rfl) (by kernel_rfl) (fun _ _ _ h => h) (by rfl) ?hq18x hHeld ?rq18x
  case hq18x => (intro w' hSw; (try dsimp only at hSw); go_simp <;> with_reducible rfl)
  try simp only [Act.put, List.setIfInBounds_toArray, List.set_cons_zero, List.set_cons_succ]
  refine take_op (i := 16) (d := 52) (OP := Op.pick (Operand.tmp 48) (Operand.tmp 51) (Operand.const (Value.bool false))) (T := 4) (v := ?vq19x) rfl rfl rfl rfl (by kernel_rfl) (by kernel_rfl) (by kernel_rfl) (fun _ _ _ h => h) (by rfl) ?hq19x hHeld ?rq19x
  case hq19x => (intro w' hSw; (try dsimp only at hSw); go_simp <;> with_reducible rfl)
  try simp only [Act.put, List.setIfInBounds_toArray, List.set_cons_zero, List.set_cons_succ]
  refine take_op (i := 17) (d := 53) (OP := Op.move (Operand.tmp 52)) (T := 4) (v := ?vq20x) rfl rfl rfl rfl (by kernel_rfl) (by kernel_rfl) (by kernel_rfl) (fun _ _ _ h => h) (by rfl) ?hq20x hHeld ?rq20x
  case hq20x => (intro w' hSw; (try dsimp only at hSw); go_simp <;> with_reducible rfl)
  try simp only [Act.put, List.setIfInBounds_toArray, List.set_cons_zero, List.set_cons_succ]
  refine take_op (i := 18) (d := 54) (OP := Op.move (Operand.tmp 3)) (T := 24) (v := ?vq21x) rfl rfl rfl rfl (by kernel_rfl) (by kernel_rfl) (by kernel_rfl) (fun _ _ _ h => h) (by rfl) ?hq21x hHeld ?rq21x
  case hq21x => (intro w' hSw; (try dsimp only at hSw); go_simp <;> with_reducible rfl)
  try simp only [Act.put, List.setIfInBounds_toArray, List.set_cons_zero, List.set_cons_succ]
  refine take_op (i := 19) (d := 55) (OP := Op.indexAddr 24 (Operand.tmp 54) (Operand.const (Value.int IntKind.i64 0))) (T := 0) (v := ?vq22x) rfl rfl rfl rfl (by kernel_rfl) (by kernel_rfl) (by kernel_rfl) (fun _ _ _ h => h) (by rfl) ?hq22x hHeld ?rq22x
  case hq22x => (intro w' hSw; (try dsimp only at hSw); go_simp <;> with_reducible rfl)
  try simp only [Act.put, List.setIfInBounds_toArray, List.set_cons_zero, List.set_cons_succ]
  refine take_op (i := 20) (d := 56) (OP := Op.fieldAddr 36 (Operand.tmp 55) 0) (T := 0) (v := ?vq23x) rfl rfl rfl rfl (by kernel_rfl) (by kernel_rfl) (by kernel_rfl) (fun _ _ _ h => h) (by rfl) ?hq23x hHeld ?rq23x
  case hq23x => (intro w' hSw; (try dsimp only at hSw); go_simp <;> with_reducible rfl)
  try simp only [Act.put, List.setIfInBounds_toArray, List.set_cons_zero, List.set_cons_succ]
  refine take_op (i := 21) (d := 57) (OP := Op.load 3 (Operand.tmp 56)) (T := 3) (v := ?vq24x) rfl rfl rfl rfl (by kernel_rfl) (by kernel_rfl) (by kernel_rfl) (fun _ _ _ h => h) (by rfl) ?hq24x hHeld ?rq24x
  case hq24x => (intro w' hSw; (try dsimp only at hSw); go_simp <;> with_reducible rfl)
  try simp only [Act.put, List.setIfInBounds_toArray, List.set_cons_zero, List.set_cons_succ]
  refine take_op (i := 22) (d := 58) (OP := Op.binOp BinOp.eql 3 (Operand.tmp 57) (Operand.const (Value.int IntKind.i64 1)) 3) (T := 4) (v := ?vq25x) rfl rfl rfl rfl (by kernel_rfl) (by kernel_rfl) (by kernel_rfl) (fun _ _ _ h => h) (by rfl) ?hq25x hHeld ?rq25x
  case hq25x => (intro w' hSw; (try dsimp only at hSw); go_simp <;> with_reducible rfl)
  try simp only [Act.put, List.setIfInBounds_toArray, List.set_cons_zero, List.set_cons_succ]
  refine take_op (i := 23) (d := 59) (OP := Op.pick (Operand.tmp 53) (Operand.tmp 58) (Operand.const (Value.bool false))) (T := 4) (v := ?vq26x) rfl rfl rfl rfl (by kernel_rfl) (by kernel_rfl) (by kernel_rfl) (fun _ _ _ h => h) (by rfl) ?hq26x hHeld ?rq26x
  case hq26x => (intro w' hSw; (try dsimp only at hSw); go_simp <;> with_reducible rfl)
  try simp only [Act.put, List.setIfInBounds_toArray, List.set_cons_zero, List.set_cons_succ]
  refine take_op (i := 24) (d := 60) (OP := Op.move (Operand.tmp 59)) (T := 4) (v := ?vq27x) rfl rfl rfl rfl (by kernel_rfl) (by kernel_rfl) (by kernel_rfl) (fun _ _ _ h => h) (by rfl) ?hq27x hHeld ?rq27x
  case hq27x => (intro w' hSw; (try dsimp only at hSw); go_simp <;> with_reducible rfl)
  try simp only [Act.put, List.setIfInBounds_toArray, List.set_cons_zero, List.set_cons_succ]
  refine take_op (i := 25) (d := 61) (OP := Op.move (Operand.tmp 3)) (T := 24) (v := ?vq28x) rfl rfl rfl rfl (by kernel_rfl) (by kernel_rfl) (by kernel_rfl) (fun _ _ _ h => h) (by rfl) ?hq28x hHeld ?rq28x
  case hq28x => (intro w' hSw; (try dsimp only at hSw); go_simp <;> with_reducible rfl)
  try simp only [Act.put, List.setIfInBounds_toArray, List.set_cons_zero, List.set_cons_succ]
  refine take_op (i := 26) (d := 62) (OP := Op.indexAddr 24 (Operand.tmp 61) (Operand.const (Value.int IntKind.i64 0))) (T := 0) (v := ?vq29x) rfl rfl rfl rfl (by kernel_rfl) (by kernel_rfl) (by kernel_rfl) (fun _ _ _ h => h) (by rfl) ?hq29x hHeld ?rq29x
  case hq29x => (intro w' hSw; (try dsimp only at hSw); go_simp <;> with_reducible rfl)
  try simp only [Act.put, List.setIfInBounds_toArray, List.set_cons_zero, List.set_cons_succ]
  refine take_op (i := 27) (d := 63) (OP := Op.fieldAddr 36 (Operand.tmp 62) 1) (T := 0) (v := ?vq30x) rfl rfl rfl rfl (by kernel_rfl) (by kernel_rfl) (by kernel_rfl) (fun _ _ _ h => h) (by rfl) ?hq30x hHeld ?rq30x
  case hq30x => (intro w' hSw; (try dsimp only at hSw); go_simp <;> with_reducible rfl)
  try simp only [Act.put, List.setIfInBounds_toArray, List.set_cons_zero, List.set_cons_succ]
  refine take_op (i := 28) (d := 64) (OP := Op.load 22 (Operand.tmp 63)) (T := 22) (v := ?vq31x) rfl rfl rfl rfl (by kernel_rfl) (by kernel_rfl) (by kernel_rfl) (fun _ _ _ h => h) (by rfl) ?hq31x hHeld ?rq31x
  case hq31x => (intro w' hSw; (try dsimp only at hSw); go_simp <;> with_reducible rfl)
  try simp only [Act.put, List.setIfInBounds_toArray, List.set_cons_zero, List.set_cons_succ]
  refine take_op (i := 29) (d := 65) (OP := Op.convert 22 9 (Operand.tmp 64)) (T := 9) (v := .string { data := #[97] }) rfl rfl rfl rfl (by kernel_rfl) (by kernel_rfl) (by kernel_rfl) (fun _ _ _ h => h) (by rfl) ?hz2x hHeld ?rz2x
  case hz2x => (intro w' hSw; have hcv := conv_rd (n := 1) (cap := cb) hSw.2.2.2 rfl; rw [show strOfNums [97] = { data := #[97] } from rfl] at hcv; go_simp)
  try simp only [Act.put, List.setIfInBounds_toArray, List.set_cons_zero, List.set_cons_succ]
  refine take_op (i := 30) (d := 66) (OP := Op.binOp BinOp.eql 9 (Operand.tmp 65) (Operand.const (Value.string { data := #[97] })) 9) (T := 4) (v := ?vq33x) rfl rfl rfl rfl (by kernel_rfl) (by kernel_rfl) (by kernel_rfl) (fun _ _ _ h => h) (by rfl) ?hq33x hHeld ?rq33x
  case hq33x => (intro w' hSw; (try dsimp only at hSw); go_simp <;> with_reducible rfl)
  try simp only [Act.put, List.setIfInBounds_toArray, List.set_cons_zero, List.set_cons_succ]
  refine take_op (i := 31) (d := 67) (OP := Op.pick (Operand.tmp 60) (Operand.tmp 66) (Operand.const (Value.bool false))) (T := 4) (v := ?vq34x) rfl rfl rfl rfl (by kernel_rfl) (by kernel_rfl) (by kernel_rfl) (fun _ _ _ h => h) (by rfl) ?hq34x hHeld ?rq34x
  case hq34x => (intro w' hSw; (try dsimp only at hSw); go_simp <;> with_reducible rfl)
  try simp only [Act.put, List.setIfInBounds_toArray, List.set_cons_zero, List.set_cons_succ]
  refine take_op (i := 32) (d := 68) (OP := Op.move (Operand.tmp 67)) (T := 4) (v := ?vq35x) rfl rfl rfl rfl (by kernel_rfl) (by kernel_rfl) (by kernel_rfl) (fun _ _ _ h => h) (by rfl) ?hq35x hHeld ?rq35x
  case hq35x => (intro w' hSw; (try dsimp only at hSw); go_simp <;> with_reducible rfl)
  try simp only [Act.put, List.setIfInBounds_toArray, List.set_cons_zero, List.set_cons_succ]
  refine take_op (i := 33) (d := 69) (OP := Op.move (Operand.tmp 4)) (T := 3) (v := ?vq36x) rfl rfl rfl rfl (by kernel_rfl) (by kernel_rfl) (by kernel_rfl) (fun _ _ _ h => h) (by rfl) ?hq36x hHeld ?rq36x
  case hq36x => (intro w' hSw; (try dsimp only at hSw); go_simp <;> with_reducible rfl)
  try simp only [Act.put, List.setIfInBounds_toArray, List.set_cons_zero, List.set_cons_succ]
  refine take_op (i := 34) (d := 70) (OP := Op.binOp BinOp.eql 3 (Operand.tmp 69) (Operand.const (Value.int IntKind.i64 10)) 3) (T := 4) (v := ?vq37x) rfl rfl rfl rfl (by kernel_rfl) (by kernel_rfl) (by kernel_rfl) (fun _ _ _ h => h) (by rfl) ?hq37x hHeld ?rq37x
  case hq37x => (intro w' hSw; (try dsimp only at hSw); go_simp <;> with_reducible rfl)
  try simp only [Act.put, List.setIfInBounds_toArray, List.set_cons_zero, List.set_cons_succ]
  refine take_op (i := 35) (d := 71) (OP := Op.pick (Operand.tmp 68) (Operand.tmp 70) (Operand.const (Value.bool false))) (T := 4) (v := ?vq38x) rfl rfl rfl rfl (by kernel_rfl) (by kernel_rfl) (by kernel_rfl) (fun _ _ _ h => h) (by rfl) ?hq38x hHeld ?rq38x
  case hq38x => (intro w' hSw; (try dsimp only at hSw); go_simp <;> with_reducible rfl)
  try simp only [Act.put, List.setIfInBounds_toArray, List.set_cons_zero, List.set_cons_succ]
  refine take_op (i := 36) (d := 72) (OP := Op.move (Operand.tmp 71)) (T := 4) (v := ?vq39x) rfl rfl rfl rfl (by kernel_rfl) (by kernel_rfl) (by kernel_rfl) (fun _ _ _ h => h) (by rfl) ?hq39x hHeld ?rq39x
  case hq39x => (intro w' hSw; (try dsimp only at hSw); go_simp <;> with_reducible rfl)
  try simp only [Act.put, List.setIfInBounds_toArray, List.set_cons_zero, List.set_cons_succ]
  refine take_op (i := 37) (d := 73) (OP := Op.move (Operand.tmp 5)) (T := 25) (v := ?vq40x) rfl rfl rfl rfl (by kernel_rfl) (by kernel_rfl) (by kernel_rfl) (fun _ _ _ h => h) (by rfl) ?hq40x hHeld ?rq40x
  case hq40x => (intro w' hSw; (try dsimp only at hSw); go_simp <;> with_reducible rfl)
  try simp only [Act.put, List.setIfInBounds_toArray, List.set_cons_zero, List.set_cons_succ]
  refine call_op (i := 38) (d := 74) (OP := Op.call { callee := Callee.value (Operand.func 8), args := #[Operand.tmp 73], argTypes := #[25] }) (T := 3) (f := 8) (args := #[.int .i64 140]) rfl rfl rfl rfl (by kernel_rfl) (by rfl) (by go_simp) ?_
  refine (num_any 140 w9).mono ?_
  rintro e w10 ⟨rfl, rfl⟩
  refine ⟨_, rfl, hS9, ?_⟩
  replace hHeld := hS9
  try simp only [Act.put, List.setIfInBounds_toArray, List.set_cons_zero, List.set_cons_succ]
  refine take_op (i := 39) (d := 75) (OP := Op.binOp BinOp.eql 3 (Operand.tmp 74) (Operand.const (Value.int IntKind.i64 140)) 3) (T := 4) (v := ?vq42x) rfl rfl rfl rfl (by kernel_rfl) (by kernel_rfl) (by kernel_rfl) (fun _ _ _ h => h) (by rfl) ?hq42x hHeld ?rq42x
  case hq42x => (intro w' hSw; (try dsimp only at hSw); go_simp <;> with_reducible rfl)
  try simp only [Act.put, List.setIfInBounds_toArray, List.set_cons_zero, List.set_cons_succ]
  refine take_op (i := 40) (d := 76) (OP := Op.pick (Operand.tmp 72) (Operand.tmp 75) (Operand.const (Value.bool false))) (T := 4) (v := ?vq43x) rfl rfl rfl rfl (by kernel_rfl) (by kernel_rfl) (by kernel_rfl) (fun _ _ _ h => h) (by rfl) ?hq43x hHeld ?rq43x
  case hq43x => (intro w' hSw; (try dsimp only at hSw); go_simp <;> with_reducible rfl)
  try simp only [Act.put, List.setIfInBounds_toArray, List.set_cons_zero, List.set_cons_succ]
  refine take_op (i := 41) (d := 77) (OP := Op.move (Operand.tmp 76)) (T := 4) (v := ?vq44x) rfl rfl rfl rfl (by kernel_rfl) (by kernel_rfl) (by kernel_rfl) (fun _ _ _ h => h) (by rfl) ?hq44x hHeld ?rq44x
  case hq44x => (intro w' hSw; (try dsimp only at hSw); go_simp <;> with_reducible rfl)
  try simp only [Act.put, List.setIfInBounds_toArray, List.set_cons_zero, List.set_cons_succ]
  refine take_op (i := 42) (d := 78) (OP := Op.move (Operand.tmp 7)) (T := 3) (v := ?vq45x) rfl rfl rfl rfl (by kernel_rfl) (by kernel_rfl) (by kernel_rfl) (fun _ _ _ h => h) (by rfl) ?hq45x hHeld ?rq45x
  case hq45x => (intro w' hSw; (try dsimp only at hSw); go_simp <;> with_reducible rfl)
  try simp only [Act.put, List.setIfInBounds_toArray, List.set_cons_zero, List.set_cons_succ]
  refine take_op (i := 43) (d := 79) (OP := Op.binOp BinOp.eql 3 (Operand.tmp 78) (Operand.const (Value.int IntKind.i64 0)) 3) (T := 4) (v := ?vq46x) rfl rfl rfl rfl (by kernel_rfl) (by kernel_rfl) (by kernel_rfl) (fun _ _ _ h => h) (by rfl) ?hq46x hHeld ?rq46x
  case hq46x => (intro w' hSw; (try dsimp only at hSw); go_simp <;> with_reducible rfl)
  try simp only [Act.put, List.setIfInBounds_toArray, List.set_cons_zero, List.set_cons_succ]
  refine take_op (i := 44) (d := 80) (OP := Op.pick (Operand.tmp 77) (Operand.tmp 79) (Operand.const (Value.bool false))) (T := 4) (v := ?vq47x) rfl rfl rfl rfl (by kernel_rfl) (by kernel_rfl) (by kernel_rfl) (fun _ _ _ h => h) (by rfl) ?hq47x hHeld ?rq47x
  case hq47x => (intro w' hSw; (try dsimp only at hSw); go_simp <;> with_reducible rfl)
  try simp only [Act.put, List.setIfInBounds_toArray, List.set_cons_zero, List.set_cons_succ]
  refine take_op (i := 45) (d := 81) (OP := Op.move (Operand.tmp 80)) (T := 4) (v := ?vq48x) rfl rfl rfl rfl (by kernel_rfl) (by kernel_rfl) (by kernel_rfl) (fun _ _ _ h => h) (by rfl) ?hq48x hHeld ?rq48x
  case hq48x => (intro w' hSw; (try dsimp only at hSw); go_simp <;> with_reducible rfl)
  try simp only [Act.put, List.setIfInBounds_toArray, List.set_cons_zero, List.set_cons_succ]
  refine take_op (i := 46) (d := 82) (OP := Op.move (Operand.tmp 8)) (T := 25) (v := ?vq49x) rfl rfl rfl rfl (by kernel_rfl) (by kernel_rfl) (by kernel_rfl) (fun _ _ _ h => h) (by rfl) ?hq49x hHeld ?rq49x
  case hq49x => (intro w' hSw; (try dsimp only at hSw); go_simp <;> with_reducible rfl)
  try simp only [Act.put, List.setIfInBounds_toArray, List.set_cons_zero, List.set_cons_succ]
  refine call_op (i := 47) (d := 83) (OP := Op.call { callee := Callee.value (Operand.func 8), args := #[Operand.tmp 82], argTypes := #[25] }) (T := 3) (f := 8) (args := #[.int .i64 141]) rfl rfl rfl rfl (by kernel_rfl) (by rfl) (by go_simp) ?_
  refine (num_any 141 w9).mono ?_
  rintro e w10 ⟨rfl, rfl⟩
  refine ⟨_, rfl, hS9, ?_⟩
  replace hHeld := hS9
  try simp only [Act.put, List.setIfInBounds_toArray, List.set_cons_zero, List.set_cons_succ]
  refine take_op (i := 48) (d := 84) (OP := Op.binOp BinOp.eql 3 (Operand.tmp 83) (Operand.const (Value.int IntKind.i64 141)) 3) (T := 4) (v := ?vq51x) rfl rfl rfl rfl (by kernel_rfl) (by kernel_rfl) (by kernel_rfl) (fun _ _ _ h => h) (by rfl) ?hq51x hHeld ?rq51x
  case hq51x => (intro w' hSw; (try dsimp only at hSw); go_simp <;> with_reducible rfl)
  try simp only [Act.put, List.setIfInBounds_toArray, List.set_cons_zero, List.set_cons_succ]
  refine take_op (i := 49) (d := 85) (OP := Op.pick (Operand.tmp 81) (Operand.tmp 84) (Operand.const (Value.bool false))) (T := 4) (v := ?vq52x) rfl rfl rfl rfl (by kernel_rfl) (by kernel_rfl) (by kernel_rfl) (fun _ _ _ h => h) (by rfl) ?hq52x hHeld ?rq52x
  case hq52x => (intro w' hSw; (try dsimp only at hSw); go_simp <;> with_reducible rfl)
  try simp only [Act.put, List.setIfInBounds_toArray, List.set_cons_zero, List.set_cons_succ]
  refine take_op (i := 50) (d := 86) (OP := Op.move (Operand.tmp 85)) (T := 4) (v := ?vq53x) rfl rfl rfl rfl (by kernel_rfl) (by kernel_rfl) (by kernel_rfl) (fun _ _ _ h => h) (by rfl) ?hq53x hHeld ?rq53x
  case hq53x => (intro w' hSw; (try dsimp only at hSw); go_simp <;> with_reducible rfl)
  try simp only [Act.put, List.setIfInBounds_toArray, List.set_cons_zero, List.set_cons_succ]
  refine take_op (i := 51) (d := 87) (OP := Op.move (Operand.tmp 10)) (T := 25) (v := ?vq54x) rfl rfl rfl rfl (by kernel_rfl) (by kernel_rfl) (by kernel_rfl) (fun _ _ _ h => h) (by rfl) ?hq54x hHeld ?rq54x
  case hq54x => (intro w' hSw; (try dsimp only at hSw); go_simp <;> with_reducible rfl)
  try simp only [Act.put, List.setIfInBounds_toArray, List.set_cons_zero, List.set_cons_succ]
  refine call_op (i := 52) (d := 88) (OP := Op.call { callee := Callee.value (Operand.func 8), args := #[Operand.tmp 87], argTypes := #[25] }) (T := 3) (f := 8) (args := #[.int .i64 2]) rfl rfl rfl rfl (by kernel_rfl) (by rfl) (by go_simp) ?_
  refine (num_any 2 w9).mono ?_
  rintro e w10 ⟨rfl, rfl⟩
  refine ⟨_, rfl, hS9, ?_⟩
  replace hHeld := hS9
  try simp only [Act.put, List.setIfInBounds_toArray, List.set_cons_zero, List.set_cons_succ]
  refine take_op (i := 53) (d := 89) (OP := Op.binOp BinOp.eql 3 (Operand.tmp 88) (Operand.const (Value.int IntKind.i64 2)) 3) (T := 4) (v := ?vq56x) rfl rfl rfl rfl (by kernel_rfl) (by kernel_rfl) (by kernel_rfl) (fun _ _ _ h => h) (by rfl) ?hq56x hHeld ?rq56x
  case hq56x => (intro w' hSw; (try dsimp only at hSw); go_simp <;> with_reducible rfl)
  try simp only [Act.put, List.setIfInBounds_toArray, List.set_cons_zero, List.set_cons_succ]
  refine take_op (i := 54) (d := 90) (OP := Op.pick (Operand.tmp 86) (Operand.tmp 89) (Operand.const (Value.bool false))) (T := 4) (v := ?vq57x) rfl rfl rfl rfl (by kernel_rfl) (by kernel_rfl) (by kernel_rfl) (fun _ _ _ h => h) (by rfl) ?hq57x hHeld ?rq57x
  case hq57x => (intro w' hSw; (try dsimp only at hSw); go_simp <;> with_reducible rfl)
  try simp only [Act.put, List.setIfInBounds_toArray, List.set_cons_zero, List.set_cons_succ]
  refine take_op (i := 55) (d := 91) (OP := Op.move (Operand.tmp 90)) (T := 4) (v := ?vq58x) rfl rfl rfl rfl (by kernel_rfl) (by kernel_rfl) (by kernel_rfl) (fun _ _ _ h => h) (by rfl) ?hq58x hHeld ?rq58x
  case hq58x => (intro w' hSw; (try dsimp only at hSw); go_simp <;> with_reducible rfl)
  try simp only [Act.put, List.setIfInBounds_toArray, List.set_cons_zero, List.set_cons_succ]
  refine call_op (i := 56) (d := 92) (OP := Op.call { callee := Callee.value (Operand.func 16), args := #[Operand.const (Value.slice none 0 0)], argTypes := #[22] }) (T := 3) (f := 16) (args := #[.slice none 0 0]) rfl rfl rfl rfl (by kernel_rfl) (by rfl) (by go_simp) ?_
  refine (size_any none 0 0 w9 (by omega)).mono ?_
  rintro e w10 ⟨rfl, rfl⟩
  refine ⟨_, rfl, hS9, ?_⟩
  replace hHeld := hS9
  try simp only [Act.put, List.setIfInBounds_toArray, List.set_cons_zero, List.set_cons_succ]
  refine take_op (i := 57) (d := 93) (OP := Op.binOp BinOp.eql 3 (Operand.tmp 92) (Operand.const (Value.int IntKind.i64 9)) 3) (T := 4) (v := ?vq60x) rfl rfl rfl rfl (by kernel_rfl) (by kernel_rfl) (by kernel_rfl) (fun _ _ _ h => h) (by rfl) ?hq60x hHeld ?rq60x
  case hq60x => (intro w' hSw; (try dsimp only at hSw); go_simp <;> with_reducible rfl)
  try simp only [Act.put, List.setIfInBounds_toArray, List.set_cons_zero, List.set_cons_succ]
  refine take_op (i := 58) (d := 94) (OP := Op.pick (Operand.tmp 91) (Operand.tmp 93) (Operand.const (Value.bool false))) (T := 4) (v := ?vq61x) rfl rfl rfl rfl (by kernel_rfl) (by kernel_rfl) (by kernel_rfl) (fun _ _ _ h => h) (by rfl) ?hq61x hHeld ?rq61x
  case hq61x => (intro w' hSw; (try dsimp only at hSw); go_simp <;> with_reducible rfl)
  try simp only [Act.put, List.setIfInBounds_toArray, List.set_cons_zero, List.set_cons_succ]
  refine take_op (i := 59) (d := 0) (OP := Op.assign (Operand.tmp 94)) (T := 4) (v := ?vq62x) rfl rfl rfl rfl (by kernel_rfl) (by kernel_rfl) (by kernel_rfl) (fun _ _ _ h => h) (by rfl) ?hq62x hHeld ?rq62x
  case hq62x => (intro w' hSw; (try dsimp only at hSw); go_simp <;> with_reducible rfl)
  try simp only [Act.put, List.setIfInBounds_toArray, List.set_cons_zero, List.set_cons_succ]
  refine wpAnyH_done (by kernel_rfl) ?_ _
  go_wp2
  go_ret
  obtain ⟨B4, b5, B8, b8c⟩ := HZ.out
  have c1 := B4.trans (b5.mono B4.size)
  have c2 := c1.trans (B8.mono c1.size)
  have c3 := c2.trans ((below_undrew0 b8c).mono c2.size)
  exact ⟨rfl, c3.trans (b9.mono c3.size)⟩
end Go.Proofs.Ytmabfaldndlneaa
