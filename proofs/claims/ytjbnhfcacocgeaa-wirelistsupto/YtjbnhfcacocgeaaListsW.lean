/-
  THE WALK over the law WireLists.
-/
import Derived.Test.YtjbnhfcacocgeaaListsK
import Derived.Deep.DeepCutAuto
namespace Go.Proofs.Ytjbnhfcacocgeaa
open Go.RowKit
set_option linter.unusedSimpArgs false

theorem rdP_lit (w : World) (x y : Nat) : RdP (w.alloc (.cells #[.int .u64 (x : Int), .int .u64 (y : Int)] 59)) (some ⟨w.heap.size, 0, none⟩) [(x, y)] :=
  ⟨by simp, fun a ha j u hj => by cases ha; exact cell_two_new w _ _ 59 j u hj⟩

theorem below_undrew2 {a w' : World} (h : Below a.drew.drew.heap.size a.drew.drew w') : Below a.heap.size a w' := ⟨h.os, h.tape, h.output, h.size, h.block⟩
theorem two_keepA {p0 p1 : Addr} {x0 x1 : Value} {wa wb : World} (h : wa.cell? p0 = some x0 ∧ wa.cell? p1 = some x1) (hb : Below wa.heap.size wa wb) : wb.cell? p0 = some x0 ∧ wb.cell? p1 = some x1 :=
  ⟨(hb.cell (World.block_lt_of_cell? wa _ h.1)).trans h.1, (hb.cell (World.block_lt_of_cell? wa _ h.2)).trans h.2⟩
theorem takeP_at (R S n : Nat) (most : Int) (l l' : List Int) (qs : List (Nat × Nat)) (er : Int) (w : World) (hx : rpairs most l = (qs, er, l')) (hn : qs.length = n) (hR : Rdr 73 w R S l) (hS : S ≤ w.heap.size) (hm : most ≤ 9223372036854775807) (hl47 : l.length ≤ 1099511627776) :
    Calls Try.prog 31 #[.pointer (some ⟨R, 0, none⟩), .int .i64 most, .func (.func 32) #[] #[]] w fun e w' => ∃ ao cap, e = .returned (.tuple #[.slice ao n cap, .int .i64 er]) ∧ OwnP w' w.heap.size (.slice ao n cap) qs ∧ Rdr 73 w' R S l' ∧ w.grownBy w' (some R) := by
  have h := takeP_any R S most l w hR hS hm hl47
  unfold TakeP at h
  rw [hx] at h
  subst hn
  exact h
theorem left_at (R S n : Nat) (l : List Int) (w : World) (hn : l.length = n) (hR : Rdr 73 w R S l) : Calls Try.prog 21 #[.pointer (some ⟨R, 0, none⟩)] w fun e w' => e = .returned (.int .i64 n) ∧ w = w' := by
  subst hn
  exact left_any R S l w hR
theorem putP_at (ao : Option Addr) (cap : Nat) (ps : List (Nat × Nat)) (l : List Int) (w : World) (hl : l = listL ps) (hr : RdP w ao ps) (hf : Fits ps) (hlen : ps.length ≤ 1099511627776) :
    Calls Try.prog 29 #[.slice ao ps.length cap, .func (.func 30) #[] #[]] w fun e w' =>
      ∃ ao1 cap1, e = .returned (.tuple #[.slice ao1 l.length cap1, .int .i64 0]) ∧ Own 5 w' w.heap.size (.slice ao1 l.length cap1) l ∧ (ao1 = none → cap1 = 0) ∧ Below w.heap.size w w' := by
  subst hl
  exact putP_any ao cap ps w hr hf hlen

set_option maxHeartbeats 2000000 in
set_option maxRecDepth 100000 in
theorem lists_walk (lo : Option Addr) (capl : Nat) (ps : List (Nat × Nat)) (cut : Int) (w : World)
    (hr : RdP w lo ps) (nl : lo = none → capl = 0) (hf : Fits ps) (hn : ps.length ≤ 1048576) (hc0 : -9223372036854775808 ≤ cut) (hc1 : cut ≤ 9223372036854775807) :
    Calls Try.prog 6 #[.slice lo ps.length capl, .int .i64 cut] w fun e w' => e = .returned (.bool true) ∧ Below w.heap.size w w' := by
  obtain ⟨i0, hi, hz0, hz1, hz2⟩ := info_parts Try.info5
  have gd := guard59
  have qe := equal59
  have qb := build59
  obtain ⟨LL, hLL⟩ : ∃ l, l = listL ps := ⟨_, rfl⟩
  have HLL := hide hLL
  clear hLL
  go_enter Try.func6, Try.ntmps6
  go_wp2_with (first
    | (at_builtin; refine wpList_append_rdP rfl (.const (.slice none 0 0)) (.tmp 19) rfl w.heap.size _ [] rfl (World.ownsRow_nil _ _ _ _) lo capl ps rfl nl hr (by simp; omega) (by simp) ?_; intro o1 c1 w1 own1 g1; have b1 := below_ownP (l := []) (Below.refl w.heap.size _) (by simp) (World.ownsRow_nil _ _ _ _) g1; simp only [List.length_nil, Nat.zero_add, List.nil_append] at own1 ⊢; have s1 := b1.size)
    | (at_builtin; refine wpList_append_rdP rfl (.tmp 20) (.tmp 22) rfl w.heap.size _ ps rfl (World.ownsRow.alloc own1 _) (some ⟨w1.heap.size, 0, none⟩) 1 [(7, 71)] rfl (by simp) (by exact rdP_lit w1 7 71) (by simp; omega) (by simp; omega) ?_; intro o2 c2 w2 own2 g2; have b2 := below_ownP (b1.alloc s1 _) (by simp; omega) (World.ownsRow.alloc own1 _) g2; obtain ⟨_, l2, n2⟩ := own2.lens; have r2 := own2.rd; simp only [List.length_cons, List.length_nil, Nat.zero_add] at own2 l2 ⊢; have s2 := b2.size; have l2' : ps.length ≤ c2 := (by omega)))
  try simp only [Act.put, List.setIfInBounds_toArray, List.set_cons_zero, List.set_cons_succ]
  go_wp2_with (first
    | (go_at_call 29; refine (putP_at o2 _ ps LL _ HLL.out (r2.take ps rfl) hf (by omega)).mono ?_; rintro e w3 ⟨o3, c3, rfl, own3, nil3, b3⟩; have r3 := r2.below b3; obtain ⟨b5, off5, rfl, hb5, x5, y5⟩ := r3.at (k := ps.length) (x := 7) (y := 71) (by simp))
    | (go_at_call 23; refine (num_any _ _).mono ?_; rintro e w10 ⟨rfl, rfl⟩)
    | (go_at_call 12; refine (refNumber_any ps.length _ (by omega)).mono ?_; rintro e w4 ⟨o4, c4, rfl, own4, nil4, b4⟩))
  have r0 := hr.below (b2.trans (b3.mono b2.size))
  clear x5 y5 b1 own1 g1 g2 own2
  go_loopw [8, 9] (fun v i wr => ∃ (k : Nat) (p : List Int) (ao' : Option Addr) (cap' : Nat), k ≤ ps.length ∧ i = .int .i64 k ∧ p = Plain.numL ps.length ++ formsL (ps.take k) ∧ v = .slice ao' p.length cap' ∧ Own 5 wr w3.heap.size (.slice ao' p.length cap') p ∧ (ao' = none → cap' = 0) ∧ Below w3.heap.size w3 wr)
    (fun _ i _ => ps.length - (intOf i).toNat)
  case atStart => exact ⟨0, _, o4, c4, Nat.zero_le _, rfl, rfl, by simp [formsL], by simpa [formsL] using own4, nil4, b4⟩
  case round =>
    obtain ⟨k, p, ao', cap', hk, rfl, hpk, rfl, hown, hnil, hb⟩ := hrel
    have hsz := hb.size
    have HP := hide hpk
    have hple : p.length ≤ 10 + 20 * ps.length := by
      have h10 := Plain.numL_ten ps.length (by omega)
      rw [hpk, List.length_append]
      have := formsL_len _ (hf.take k)
      rw [List.length_take] at this
      omega
    clear hpk
    by_cases hlt : k < ps.length
    · obtain ⟨⟨x, y⟩, hxy⟩ : ∃ q, ps[k]? = some q := ⟨_, List.getElem?_eq_getElem hlt⟩
      obtain ⟨hx, hy⟩ := hf.at hxy
      have h3 := Plain.numL_ten x hx
      have h4 := Plain.numL_ten y hy
      have HX := hide hxy
      obtain ⟨lb, loff, rfl, hlb, e0, e1⟩ := (r0.below hb).at hxy
      obtain ⟨mb, moff, hm, hmb, f0, f1⟩ := (r3.below hb).at (k := k) (x := x) (y := y) (by rw [List.getElem?_append_left hlt]; exact hxy)
      cases hm
      clear hxy
      have hlt' : (k : Int) < (ps.length : Int) + 1 := by omega
      go_wp2
      refine wp_region_held_drew (S := (fun w' => (w'.cell? ⟨lb, loff + k * 2, none⟩ = some (.int .u64 x) ∧ w'.cell? ⟨lb, loff + k * 2 + 1, none⟩ = some (.int .u64 y)) ∧ w'.cell? ⟨b5, off5 + k * 2, none⟩ = some (.int .u64 x) ∧ w'.cell? ⟨b5, off5 + k * 2 + 1, none⟩ = some (.int .u64 y))) (by kernel_rfl) ⟨⟨e0, e1⟩, f0, f1⟩ (fun hHeld => ?_)
      try dsimp only at hHeld
      refine take_op (i := 0) (d := 58) (OP := Go.Op.move (Go.Operand.tmp 5)) (T := 58) (v := ?vax1) rfl rfl rfl rfl (by kernel_rfl) (by kernel_rfl) (by kernel_rfl) (fun _ _ _ h => h) (by rfl) ?hax1 hHeld ?rax1
      case hax1 => (intro w' hSw; (try dsimp only at hSw); go_simp <;> with_reducible rfl)
      try simp only [Act.put, List.setIfInBounds_toArray, List.set_cons_zero, List.set_cons_succ]
      refine take_op (i := 1) (d := 59) (OP := Go.Op.move (Go.Operand.tmp 9)) (T := 3) (v := ?vax2) rfl rfl rfl rfl (by kernel_rfl) (by kernel_rfl) (by kernel_rfl) (fun _ _ _ h => h) (by rfl) ?hax2 hHeld ?rax2
      case hax2 => (intro w' hSw; (try dsimp only at hSw); go_simp <;> with_reducible rfl)
      try simp only [Act.put, List.setIfInBounds_toArray, List.set_cons_zero, List.set_cons_succ]
      refine take_op (i := 2) (d := 60) (OP := Go.Op.indexAddr 58 (Go.Operand.tmp 58) (Go.Operand.tmp 59)) (T := 0) (v := ?vax3) rfl rfl rfl rfl (by kernel_rfl) (by kernel_rfl) (by kernel_rfl) (fun _ _ _ h => h) (by rfl) ?hax3 hHeld ?rax3
      case hax3 => (intro w' hSw; (try dsimp only at hSw); go_simp <;> with_reducible rfl)
      try simp only [Act.put, List.setIfInBounds_toArray, List.set_cons_zero, List.set_cons_succ]
      refine take_op (i := 3) (d := 61) (OP := Go.Op.load 59 (Go.Operand.tmp 60)) (T := 59) (v := ?vax4) rfl rfl rfl rfl (by kernel_rfl) (by kernel_rfl) (by kernel_rfl) (fun _ _ _ h => h) (by rfl) ?hax4 hHeld ?rax4
      case hax4 => (intro w' hSw; (try dsimp only at hSw); go_simp <;> with_reducible rfl)
      try simp only [Act.put, List.setIfInBounds_toArray, List.set_cons_zero, List.set_cons_succ]
      refine take_op (i := 4) (d := 62) (OP := Go.Op.move (Go.Operand.tmp 0)) (T := 58) (v := ?vax5) rfl rfl rfl rfl (by kernel_rfl) (by kernel_rfl) (by kernel_rfl) (fun _ _ _ h => h) (by rfl) ?hax5 hHeld ?rax5
      case hax5 => (intro w' hSw; (try dsimp only at hSw); go_simp <;> with_reducible rfl)
      try simp only [Act.put, List.setIfInBounds_toArray, List.set_cons_zero, List.set_cons_succ]
      refine take_op (i := 5) (d := 63) (OP := Go.Op.move (Go.Operand.tmp 9)) (T := 3) (v := ?vax6) rfl rfl rfl rfl (by kernel_rfl) (by kernel_rfl) (by kernel_rfl) (fun _ _ _ h => h) (by rfl) ?hax6 hHeld ?rax6
      case hax6 => (intro w' hSw; (try dsimp only at hSw); go_simp <;> with_reducible rfl)
      try simp only [Act.put, List.setIfInBounds_toArray, List.set_cons_zero, List.set_cons_succ]
      refine take_op (i := 6) (d := 64) (OP := Go.Op.indexAddr 58 (Go.Operand.tmp 62) (Go.Operand.tmp 63)) (T := 0) (v := ?vax7) rfl rfl rfl rfl (by kernel_rfl) (by kernel_rfl) (by kernel_rfl) (fun _ _ _ h => h) (by rfl) ?hax7 hHeld ?rax7
      case hax7 => (intro w' hSw; (try dsimp only at hSw); go_simp <;> with_reducible rfl)
      try simp only [Act.put, List.setIfInBounds_toArray, List.set_cons_zero, List.set_cons_succ]
      refine take_op (i := 7) (d := 65) (OP := Go.Op.load 59 (Go.Operand.tmp 64)) (T := 59) (v := ?vax8) rfl rfl rfl rfl (by kernel_rfl) (by kernel_rfl) (by kernel_rfl) (fun _ _ _ h => h) (by rfl) ?hax8 hHeld ?rax8
      case hax8 => (intro w' hSw; (try dsimp only at hSw); go_simp <;> with_reducible rfl)
      try simp only [Act.put, List.setIfInBounds_toArray, List.set_cons_zero, List.set_cons_succ]
      refine take_op (i := 8) (d := 66) (OP := Go.Op.binOp Go.BinOp.neq 59 (Go.Operand.tmp 61) (Go.Operand.tmp 65) 59) (T := 4) (v := ?vax9) rfl rfl rfl rfl (by kernel_rfl) (by kernel_rfl) (by kernel_rfl) (fun _ _ _ h => h) (by rfl) ?hax9 hHeld ?rax9
      case hax9 => (intro w' hSw; (try dsimp only at hSw); go_simp <;> with_reducible rfl)
      try simp only [Act.put, List.setIfInBounds_toArray, List.set_cons_zero, List.set_cons_succ]
      refine wpAnyH_done (by kernel_rfl) ?_ _
      obtain ⟨lb', loff', heq, hlb3, e03, e13⟩ := r0.at HX.out
      cases heq
      go_wp2
      refine wp_region_held_drew (S := (fun w' => w'.cell? ⟨lb, loff + k * 2, none⟩ = some (.int .u64 x) ∧ w'.cell? ⟨lb, loff + k * 2 + 1, none⟩ = some (.int .u64 y))) (by kernel_rfl) (by exact ⟨e0, e1⟩) (fun hHeld => ?_)
      try dsimp only at hHeld
      refine take_op (i := 0) (d := 67) (OP := Go.Op.move (Go.Operand.tmp 8)) (T := 23) (v := ?vbx1) rfl rfl rfl rfl (by kernel_rfl) (by kernel_rfl) (by kernel_rfl) (fun _ _ _ h => h) (by rfl) ?hbx1 hHeld ?rbx1
      case hbx1 => (intro w' hSw; (try dsimp only at hSw); go_simp <;> with_reducible rfl)
      try simp only [Act.put, List.setIfInBounds_toArray, List.set_cons_zero, List.set_cons_succ]
      refine take_op (i := 1) (d := 68) (OP := Go.Op.move (Go.Operand.tmp 0)) (T := 58) (v := ?vbx2) rfl rfl rfl rfl (by kernel_rfl) (by kernel_rfl) (by kernel_rfl) (fun _ _ _ h => h) (by rfl) ?hbx2 hHeld ?rbx2
      case hbx2 => (intro w' hSw; (try dsimp only at hSw); go_simp <;> with_reducible rfl)
      try simp only [Act.put, List.setIfInBounds_toArray, List.set_cons_zero, List.set_cons_succ]
      refine take_op (i := 2) (d := 69) (OP := Go.Op.move (Go.Operand.tmp 9)) (T := 3) (v := ?vbx3) rfl rfl rfl rfl (by kernel_rfl) (by kernel_rfl) (by kernel_rfl) (fun _ _ _ h => h) (by rfl) ?hbx3 hHeld ?rbx3
      case hbx3 => (intro w' hSw; (try dsimp only at hSw); go_simp <;> with_reducible rfl)
      try simp only [Act.put, List.setIfInBounds_toArray, List.set_cons_zero, List.set_cons_succ]
      refine take_op (i := 3) (d := 70) (OP := Go.Op.indexAddr 58 (Go.Operand.tmp 68) (Go.Operand.tmp 69)) (T := 0) (v := ?vbx4) rfl rfl rfl rfl (by kernel_rfl) (by kernel_rfl) (by kernel_rfl) (fun _ _ _ h => h) (by rfl) ?hbx4 hHeld ?rbx4
      case hbx4 => (intro w' hSw; (try dsimp only at hSw); go_simp <;> with_reducible rfl)
      try simp only [Act.put, List.setIfInBounds_toArray, List.set_cons_zero, List.set_cons_succ]
      refine take_op (i := 4) (d := 71) (OP := Go.Op.indexAddr 59 (Go.Operand.tmp 70) (Go.Operand.const (Go.Value.int Go.IntKind.i64 0))) (T := 0) (v := ?vbx5) rfl rfl rfl rfl (by kernel_rfl) (by kernel_rfl) (by kernel_rfl) (fun _ _ _ h => h) (by rfl) ?hbx5 hHeld ?rbx5
      case hbx5 => (intro w' hSw; (try dsimp only at hSw); go_simp <;> with_reducible rfl)
      try simp only [Act.put, List.setIfInBounds_toArray, List.set_cons_zero, List.set_cons_succ]
      refine take_op (i := 5) (d := 72) (OP := Go.Op.load 22 (Go.Operand.tmp 71)) (T := 22) (v := ?vbx6) rfl rfl rfl rfl (by kernel_rfl) (by kernel_rfl) (by kernel_rfl) (fun _ _ _ h => h) (by rfl) ?hbx6 hHeld ?rbx6
      case hbx6 => (intro w' hSw; (try dsimp only at hSw); go_simp <;> with_reducible rfl)
      try simp only [Act.put, List.setIfInBounds_toArray, List.set_cons_zero, List.set_cons_succ]
      refine take_op (i := 8) (d := 75) (OP := Go.Op.move (Go.Operand.tmp 0)) (T := 58) (v := ?vbx7) rfl rfl rfl rfl (by kernel_rfl) (by kernel_rfl) (by kernel_rfl) (fun _ _ _ h => h) (by rfl) ?hbx7 hHeld ?rbx7
      case hbx7 => (intro w' hSw; (try dsimp only at hSw); go_simp <;> with_reducible rfl)
      try simp only [Act.put, List.setIfInBounds_toArray, List.set_cons_zero, List.set_cons_succ]
      refine take_op (i := 9) (d := 76) (OP := Go.Op.move (Go.Operand.tmp 9)) (T := 3) (v := ?vbx8) rfl rfl rfl rfl (by kernel_rfl) (by kernel_rfl) (by kernel_rfl) (fun _ _ _ h => h) (by rfl) ?hbx8 hHeld ?rbx8
      case hbx8 => (intro w' hSw; (try dsimp only at hSw); go_simp <;> with_reducible rfl)
      try simp only [Act.put, List.setIfInBounds_toArray, List.set_cons_zero, List.set_cons_succ]
      refine take_op (i := 10) (d := 77) (OP := Go.Op.indexAddr 58 (Go.Operand.tmp 75) (Go.Operand.tmp 76)) (T := 0) (v := ?vbx9) rfl rfl rfl rfl (by kernel_rfl) (by kernel_rfl) (by kernel_rfl) (fun _ _ _ h => h) (by rfl) ?hbx9 hHeld ?rbx9
      case hbx9 => (intro w' hSw; (try dsimp only at hSw); go_simp <;> with_reducible rfl)
      try simp only [Act.put, List.setIfInBounds_toArray, List.set_cons_zero, List.set_cons_succ]
      refine take_op (i := 11) (d := 78) (OP := Go.Op.indexAddr 59 (Go.Operand.tmp 77) (Go.Operand.const (Go.Value.int Go.IntKind.i64 1))) (T := 0) (v := ?vbx10) rfl rfl rfl rfl (by kernel_rfl) (by kernel_rfl) (by kernel_rfl) (fun _ _ _ h => h) (by rfl) ?hbx10 hHeld ?rbx10
      case hbx10 => (intro w' hSw; (try dsimp only at hSw); go_simp <;> with_reducible rfl)
      try simp only [Act.put, List.setIfInBounds_toArray, List.set_cons_zero, List.set_cons_succ]
      refine take_op (i := 12) (d := 79) (OP := Go.Op.load 22 (Go.Operand.tmp 78)) (T := 22) (v := ?vbx11) rfl rfl rfl rfl (by kernel_rfl) (by kernel_rfl) (by kernel_rfl) (fun _ _ _ h => h) (by rfl) ?hbx11 hHeld ?rbx11
      case hbx11 => (intro w' hSw; (try dsimp only at hSw); go_simp <;> with_reducible rfl)
      try simp only [Act.put, List.setIfInBounds_toArray, List.set_cons_zero, List.set_cons_succ]
      refine call_op (i := 6) (d := 73) (OP := Go.Op.call { callee := Go.Callee.value (Go.Operand.func 12), args := #[Go.Operand.tmp 72], argTypes := #[22] }) (T := 23) (f := 12) (args := #[.int .u64 x]) rfl rfl rfl rfl (by kernel_rfl) (by rfl) (by go_simp) ?_
      refine (refNumber_any x _ hx).mono ?_
      rintro e wc ⟨oc1, cc1, rfl, ownc1, nilc1, bc1⟩
      have dc1 : Below w3.heap.size w3 wc := hb.trans ((below_undrew2 bc1).mono hsz)
      have sc1 := dc1.size
      have ownA := hown.drew.drew.below bc1
      refine ⟨_, rfl, (show wc.cell? ⟨lb, loff + k * 2, none⟩ = some (.int .u64 x) ∧ wc.cell? ⟨lb, loff + k * 2 + 1, none⟩ = some (.int .u64 y) from two_keepA hHeld bc1), ?_⟩
      replace hHeld := (show wc.cell? ⟨lb, loff + k * 2, none⟩ = some (.int .u64 x) ∧ wc.cell? ⟨lb, loff + k * 2 + 1, none⟩ = some (.int .u64 y) from two_keepA hHeld bc1)
      try simp only [Act.put, List.setIfInBounds_toArray, List.set_cons_zero, List.set_cons_succ]
      refine append_op (i := 7) (d := 74) (.tmp 67) (.tmp 73) 23 rfl rfl rfl (by kernel_rfl) (by rfl) w3.heap.size 5 i0 Try.underlying23 hi hz0 hz1 hz2 (.slice ao' p.length cap') p rfl ownA oc1 cc1 (Plain.numL x) rfl nilc1 ownc1.rd (by omega) sc1 ?_
      intro od cd wd ownd gd1 nild
      have dd := below_own dc1 sc1 ownA gd1
      have sd := dd.size
      have hSd : wd.cell? ⟨lb, loff + k * 2, none⟩ = some (.int .u64 x) ∧ wd.cell? ⟨lb, loff + k * 2 + 1, none⟩ = some (.int .u64 y) := ⟨(dd.cell (p := ⟨lb, loff + k * 2, none⟩) hlb3).trans e03, (dd.cell (p := ⟨lb, loff + k * 2 + 1, none⟩) hlb3).trans e13⟩
      refine ⟨hSd, ?_⟩
      replace hHeld := hSd
      try simp only [Act.put, List.setIfInBounds_toArray, List.set_cons_zero, List.set_cons_succ]
      refine call_op (i := 13) (d := 80) (OP := Go.Op.call { callee := Go.Callee.value (Go.Operand.func 12), args := #[Go.Operand.tmp 79], argTypes := #[22] }) (T := 23) (f := 12) (args := #[.int .u64 y]) rfl rfl rfl rfl (by kernel_rfl) (by rfl) (by go_simp) ?_
      refine (refNumber_any y _ hy).mono ?_
      rintro e we ⟨oc2, cc2, rfl, ownc2, nilc2, bc2⟩
      have de := dd.trans (bc2.mono sd)
      have se := de.size
      have ownB := ownd.below bc2
      refine ⟨_, rfl, (show we.cell? ⟨lb, loff + k * 2, none⟩ = some (.int .u64 x) ∧ we.cell? ⟨lb, loff + k * 2 + 1, none⟩ = some (.int .u64 y) from two_keepA hHeld bc2), ?_⟩
      replace hHeld := (show we.cell? ⟨lb, loff + k * 2, none⟩ = some (.int .u64 x) ∧ we.cell? ⟨lb, loff + k * 2 + 1, none⟩ = some (.int .u64 y) from two_keepA hHeld bc2)
      try simp only [Act.put, List.setIfInBounds_toArray, List.set_cons_zero, List.set_cons_succ]
      refine append_op (i := 14) (d := 81) (.tmp 74) (.tmp 80) 23 rfl rfl rfl (by kernel_rfl) (by rfl) w3.heap.size 5 i0 Try.underlying23 hi hz0 hz1 hz2 (.slice od (p.length + (Plain.numL x).length) cd) (p ++ Plain.numL x) rfl ownB oc2 cc2 (Plain.numL y) rfl nilc2 ownc2.rd (by simp only [List.length_append]; omega) se ?_
      intro of cf wf ownf gf nilf
      have df := below_own de se ownB gf
      have sf := df.size
      have hSf : wf.cell? ⟨lb, loff + k * 2, none⟩ = some (.int .u64 x) ∧ wf.cell? ⟨lb, loff + k * 2 + 1, none⟩ = some (.int .u64 y) := ⟨(df.cell (p := ⟨lb, loff + k * 2, none⟩) hlb3).trans e03, (df.cell (p := ⟨lb, loff + k * 2 + 1, none⟩) hlb3).trans e13⟩
      refine ⟨hSf, ?_⟩
      replace hHeld := hSf
      try simp only [Act.put, List.setIfInBounds_toArray, List.set_cons_zero, List.set_cons_succ]
      refine take_op (i := 15) (d := 8) (OP := Go.Op.assign (Go.Operand.tmp 81)) (T := 23) (v := ?vex1) rfl rfl rfl rfl (by kernel_rfl) (by kernel_rfl) (by kernel_rfl) (fun _ _ _ h => h) (by rfl) ?hex1 hHeld ?rex1
      case hex1 => (intro w' hSw; (try dsimp only at hSw); go_simp <;> with_reducible rfl)
      try simp only [Act.put, List.setIfInBounds_toArray, List.set_cons_zero, List.set_cons_succ]
      refine wpAnyH_done (by kernel_rfl) ?_ _
      go_wp2
      go_roundw
      case rel => exact ⟨k + 1, (p ++ Plain.numL x) ++ Plain.numL y, of, cf, by omega, by go_num, by rw [formsL_snoc ps k x y HX.out, HP.out]; simp only [List.append_assoc], by simp [Nat.add_assoc], by simpa [Nat.add_assoc] using ownf, nilf, df⟩
      case measure => simp [intOf]; omega
    · have hpL : Hid (p = LL) := by
        show p = LL
        rw [HP.out, HLL.out, List.take_of_length_le (by omega)]; rfl
      cases hpL
      have rL := own3.rd.below hb
      have hcap3 := own3.cap.1
      have hbw : Below w.heap.size w wr := (b2.trans (b3.mono s2)).trans (hb.mono (Nat.le_trans s2 b3.size))
      have rl := r0.below hb
      have hszw := hbw.size
      clear r3 own4 b4 r2 own3 b3 b2 r0 HP
      go_upto_if 95 with (first
        | (go_at_call 19; refine (open_lo o3 c3 _ LL _ rfl rL nil3 (by omega) (by rw [HLL.out]; exact listL_bytes ps)).mono ?_; rintro e w5 ⟨R, rfl, hR5, hlo5, hsz5, hb5', _⟩; have cv1 := conv_rd (n := LL.length) (cap := c3) (rL.below hb5') rfl; have cv2 := conv_rd (n := LL.length) (cap := cap') (hown.below hb5').rd rfl))
      have hlLL : LL.length ≤ 1099511627776 := by omega
      have hless : 0 < ps.length → Hid (rpairs ((ps.length : Int) - 1) LL = ([], 3, LL)) := fun h0 => by
        show rpairs ((ps.length : Int) - 1) LL = ([], 3, LL)
        rw [HLL.out]; exact rpairs_less ps h0 (by omega)
      have hfull : Hid (rpairs (ps.length : Int) LL = (ps, 0, [])) := by
        show rpairs (ps.length : Int) LL = (ps, 0, [])
        rw [HLL.out]; exact rpairs_form ps hf (by omega)
      have hcutE : ∀ c : Nat, c < LL.length → Hid (rpairs (ps.length : Int) (LL.take c) = ([], 4, LL.take c)) := fun c hc => by
        show rpairs (ps.length : Int) (LL.take c) = ([], 4, LL.take c)
        rw [HLL.out] at hc ⊢; exact rpairs_cut ps c hf (by omega) hc
      have h8L : ∀ x ∈ LL, 0 ≤ x ∧ x ≤ 255 := by rw [HLL.out]; exact listL_bytes ps
      clear cv1 cv2
      go_cut [11, 12] (fun _ _ wx => Rdr 73 wx R (R + 1) LL ∧ Below wr.heap.size wr wx ∧ R + 1 ≤ wx.heap.size)
      case first =>
        by_cases hp : 0 < ps.length
        · have hp' : (ps.length : Int) > 0 := by omega
          have HL := hless hp
          go_wp2_with (first
            | (go_at_call 31; refine (takeP_at R (R + 1) 0 _ LL LL [] 3 _ HL.out rfl hR5 (by omega) (by omega) hlLL).mono ?_; rintro e w6 ⟨oq, cq, rfl, ownq, hR6, hg6⟩)
            | (go_at_call 23; refine (num_any _ _).mono ?_; rintro e w10 ⟨rfl, rfl⟩)
            | (go_at_call 21; refine (left_any R (R + 1) LL _ hR6).mono ?_; rintro e w7 ⟨rfl, rfl⟩))
          go_meet
          exact ⟨hR6, below_rdr hb5' hg6 (by omega) hlo5, by have := hg6.size; omega⟩
        · have hp' : ¬ (ps.length : Int) > 0 := by omega
          go_wp2
          go_meet
          exact ⟨hR5, hb5', by omega⟩
      case rest =>
        obtain ⟨hRx, hbx, hsx⟩ := hcut
        go_wp2_with (first
          | (go_at_call 31; refine (takeP_at R (R + 1) ps.length _ LL [] ps 0 _ hfull.out rfl hRx (by omega) (by omega) hlLL).mono ?_; rintro e w6 ⟨oq, cq, rfl, ownq, hR6, hg6⟩)
          | (go_at_call 23; refine (num_any _ _).mono ?_; rintro e w10 ⟨rfl, rfl⟩)
          | (go_at_call 21; refine (left_any R (R + 1) [] _ hR6).mono ?_; rintro e w7 ⟨rfl, rfl⟩))
        have hb6 : Below wr.heap.size wr w6 := below_rdr hbx hg6 (by omega) hlo5
        have r6 := ownq.rd
        have rl6 := rl.below hb6
        have rL6 := rL.below hb6
        have T6 : Below w.heap.size w w6 := hbw.trans (hb6.mono hszw)
        have hs6 := T6.size
        clear ownq hR6 hg6 hbx hb6 rL rl hbw hRx hfull hless hown hR5 hb5' hb
        go_loopw [15] (fun i wq => ∃ (k : Nat), k ≤ ps.length ∧ i = .int .i64 k ∧ Below w6.heap.size w6 wq) (fun i _ => ps.length - (intOf i).toNat)
        case atStart => exact ⟨0, Nat.zero_le _, rfl, Below.refl _ _⟩
        case round =>
          clear hk hlt
          obtain ⟨k, hk, rfl, hq⟩ := hrel
          have hsq := hq.size
          by_cases hlt : k < ps.length
          · obtain ⟨⟨x, y⟩, hxy⟩ : ∃ q, ps[k]? = some q := ⟨_, List.getElem?_eq_getElem hlt⟩
            obtain ⟨lb, loff, rfl, hlb, e0, e1⟩ := (rl6.below hq).at hxy
            obtain ⟨bb, boff, rfl, hbb, f0, f1⟩ := (r6.below hq).at hxy
            clear hxy
            go_wp2
            refine wp_region_held_drew (S := (fun w' => (w'.cell? ⟨lb, loff + k * 2, none⟩ = some (.int .u64 x) ∧ w'.cell? ⟨lb, loff + k * 2 + 1, none⟩ = some (.int .u64 y)) ∧ w'.cell? ⟨bb, boff + k * 2, none⟩ = some (.int .u64 x) ∧ w'.cell? ⟨bb, boff + k * 2 + 1, none⟩ = some (.int .u64 y))) (by kernel_rfl) ⟨⟨e0, e1⟩, f0, f1⟩ (fun hHeld => ?_)
            try dsimp only at hHeld
            refine take_op (i := 0) (d := 147) (OP := Go.Op.move (Go.Operand.tmp 13)) (T := 58) (v := ?vcx1) rfl rfl rfl rfl (by kernel_rfl) (by kernel_rfl) (by kernel_rfl) (fun _ _ _ h => h) (by rfl) ?hcx1 hHeld ?rcx1
            case hcx1 => (intro w' hSw; (try dsimp only at hSw); go_simp <;> with_reducible rfl)
            try simp only [Act.put, List.setIfInBounds_toArray, List.set_cons_zero, List.set_cons_succ]
            refine take_op (i := 1) (d := 148) (OP := Go.Op.move (Go.Operand.tmp 15)) (T := 3) (v := ?vcx2) rfl rfl rfl rfl (by kernel_rfl) (by kernel_rfl) (by kernel_rfl) (fun _ _ _ h => h) (by rfl) ?hcx2 hHeld ?rcx2
            case hcx2 => (intro w' hSw; (try dsimp only at hSw); go_simp <;> with_reducible rfl)
            try simp only [Act.put, List.setIfInBounds_toArray, List.set_cons_zero, List.set_cons_succ]
            refine take_op (i := 2) (d := 149) (OP := Go.Op.indexAddr 58 (Go.Operand.tmp 147) (Go.Operand.tmp 148)) (T := 0) (v := ?vcx3) rfl rfl rfl rfl (by kernel_rfl) (by kernel_rfl) (by kernel_rfl) (fun _ _ _ h => h) (by rfl) ?hcx3 hHeld ?rcx3
            case hcx3 => (intro w' hSw; (try dsimp only at hSw); go_simp <;> with_reducible rfl)
            try simp only [Act.put, List.setIfInBounds_toArray, List.set_cons_zero, List.set_cons_succ]
            refine take_op (i := 3) (d := 150) (OP := Go.Op.load 59 (Go.Operand.tmp 149)) (T := 59) (v := ?vcx4) rfl rfl rfl rfl (by kernel_rfl) (by kernel_rfl) (by kernel_rfl) (fun _ _ _ h => h) (by rfl) ?hcx4 hHeld ?rcx4
            case hcx4 => (intro w' hSw; (try dsimp only at hSw); go_simp <;> with_reducible rfl)
            try simp only [Act.put, List.setIfInBounds_toArray, List.set_cons_zero, List.set_cons_succ]
            refine take_op (i := 4) (d := 151) (OP := Go.Op.move (Go.Operand.tmp 0)) (T := 58) (v := ?vcx5) rfl rfl rfl rfl (by kernel_rfl) (by kernel_rfl) (by kernel_rfl) (fun _ _ _ h => h) (by rfl) ?hcx5 hHeld ?rcx5
            case hcx5 => (intro w' hSw; (try dsimp only at hSw); go_simp <;> with_reducible rfl)
            try simp only [Act.put, List.setIfInBounds_toArray, List.set_cons_zero, List.set_cons_succ]
            refine take_op (i := 5) (d := 152) (OP := Go.Op.move (Go.Operand.tmp 15)) (T := 3) (v := ?vcx6) rfl rfl rfl rfl (by kernel_rfl) (by kernel_rfl) (by kernel_rfl) (fun _ _ _ h => h) (by rfl) ?hcx6 hHeld ?rcx6
            case hcx6 => (intro w' hSw; (try dsimp only at hSw); go_simp <;> with_reducible rfl)
            try simp only [Act.put, List.setIfInBounds_toArray, List.set_cons_zero, List.set_cons_succ]
            refine take_op (i := 6) (d := 153) (OP := Go.Op.indexAddr 58 (Go.Operand.tmp 151) (Go.Operand.tmp 152)) (T := 0) (v := ?vcx7) rfl rfl rfl rfl (by kernel_rfl) (by kernel_rfl) (by kernel_rfl) (fun _ _ _ h => h) (by rfl) ?hcx7 hHeld ?rcx7
            case hcx7 => (intro w' hSw; (try dsimp only at hSw); go_simp <;> with_reducible rfl)
            try simp only [Act.put, List.setIfInBounds_toArray, List.set_cons_zero, List.set_cons_succ]
            refine take_op (i := 7) (d := 154) (OP := Go.Op.load 59 (Go.Operand.tmp 153)) (T := 59) (v := ?vcx8) rfl rfl rfl rfl (by kernel_rfl) (by kernel_rfl) (by kernel_rfl) (fun _ _ _ h => h) (by rfl) ?hcx8 hHeld ?rcx8
            case hcx8 => (intro w' hSw; (try dsimp only at hSw); go_simp <;> with_reducible rfl)
            try simp only [Act.put, List.setIfInBounds_toArray, List.set_cons_zero, List.set_cons_succ]
            refine take_op (i := 8) (d := 155) (OP := Go.Op.binOp Go.BinOp.neq 59 (Go.Operand.tmp 150) (Go.Operand.tmp 154) 59) (T := 4) (v := ?vcx9) rfl rfl rfl rfl (by kernel_rfl) (by kernel_rfl) (by kernel_rfl) (fun _ _ _ h => h) (by rfl) ?hcx9 hHeld ?rcx9
            case hcx9 => (intro w' hSw; (try dsimp only at hSw); go_simp <;> with_reducible rfl)
            try simp only [Act.put, List.setIfInBounds_toArray, List.set_cons_zero, List.set_cons_succ]
            refine wpAnyH_done (by kernel_rfl) ?_ _
            go_wp2
            go_roundw
            case rel => exact ⟨k + 1, by omega, by go_num, ⟨hq.os, hq.tape, hq.output, hq.size, hq.block⟩⟩
            case measure => simp [intOf]; omega
          · have hbq : Below w.heap.size w wr := T6.trans (hq.mono hs6)
            have hbqs := hbq.size
            have rLq := rL6.below hq
            by_cases h1 : cut < 0
            · go_wp2_with (go_at_call 18; refine (known_any _).mono ?_; rintro e w11 ⟨rfl, hb11⟩)
              go_ret
              exact ⟨rfl, hbq.trans (hb11.mono hbqs)⟩
            · by_cases h2 : cut ≥ (LL.length : Int)
              · go_wp2_with (go_at_call 18; refine (known_any _).mono ?_; rintro e w11 ⟨rfl, hb11⟩)
                go_ret
                exact ⟨rfl, hbq.trans (hb11.mono hbqs)⟩
              · obtain ⟨c, rfl⟩ := Int.eq_ofNat_of_zero_le (show 0 ≤ cut by omega)
                have hcl : c < LL.length := by omega
                have hcc : c ≤ c3 := by omega
                have htl : (LL.take c).length = c := by rw [List.length_take]; omega
                have HC := hcutE c hcl
                go_wp2_with (first
                  | (go_at_call 19; refine (open_lo o3 c3 c (LL.take c) _ htl (rLq.take c) nil3 (by omega) (fun x hx => h8L x (List.mem_of_mem_take hx))).mono ?_; rintro e w12 ⟨R2, rfl, hR12, hlo12, hsz12, hb12, _⟩)
                  | (go_at_call 31; refine (takeP_at R2 (R2 + 1) 0 _ (LL.take c) (LL.take c) [] 4 _ HC.out rfl hR12 (by omega) (by omega) (by omega)).mono ?_; rintro e w13 ⟨oz, cz, rfl, ownz, hR13, hg13⟩; have hb13 := below_rdr hb12 hg13 (by omega) hlo12)
                  | (go_at_call 23; refine (num_any _ _).mono ?_; rintro e w14 ⟨rfl, rfl⟩)
                  | (go_at_call 21; refine (left_at R2 (R2 + 1) c (LL.take c) _ htl hR13).mono ?_; rintro e w15 ⟨rfl, rfl⟩)
                  | (go_at_call 18; refine (known_any _).mono ?_; rintro e w16 ⟨rfl, hb16⟩))
                go_ret
                exact ⟨rfl, (hbq.trans (hb13.mono hbqs)).trans (hb16.mono (Nat.le_trans hbqs hb13.size))⟩
end Go.Proofs.Ytjbnhfcacocgeaa
