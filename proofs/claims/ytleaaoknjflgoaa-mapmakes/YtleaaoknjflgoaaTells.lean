/-
  THE STATEMENT's OWN tells: whether a map tells a list of keys, in all ways.
-/
import Derived.Test.YtleaaoknjflgoaaNodesL
import Derived.Test.YtleaaoknjflgoaaWhole
import Derived.Test.YtleaaoknjflgoaaAt
import Derived.BigCall
import Derived.BigGuard
import Derived.BigGuardPart
import Derived.BigRegion
namespace Go.Proofs.Ytleaaoknjflgoaa
open Go.RowKit Go.Shelf
set_option linter.unusedSimpArgs false

theorem mem_sub {k : ByteArray} {v : Int} : ∀ {t : T}, (k, v) ∈ t.list → ∃ p l r, Sub (.node p k v l r) t
  | .nil, h => by simp [T.list] at h
  | .node p k' v' l r, h => by
    simp only [T.list, List.mem_append, List.mem_cons] at h
    rcases h with h | h | h
    · obtain ⟨p, a, b, hs⟩ := mem_sub h; exact ⟨p, a, b, .left hs⟩
    · simp only [Prod.mk.injEq] at h
      obtain ⟨rfl, rfl⟩ := h
      exact ⟨p, l, r, .here⟩
    · obtain ⟨p, a, b, hs⟩ := mem_sub h; exact ⟨p, a, b, .right hs⟩
theorem find_list {t : T} (hs : Srt t.list) {i : Nat} {x : Nm} (h : t.list[i]? = some x) : (t.find x.1).val = x.2 ∧ (t.find x.1).isSome = true := by
  obtain ⟨p, l, r, hb⟩ := mem_sub (k := x.1) (v := x.2) (List.mem_of_getElem? h)
  rw [T.find_sub hb hs]
  exact ⟨rfl, rfl⟩
theorem nth_list {t : T} {i : Nat} {x : Nm} (h : t.list[i]? = some x) : (t.nth i).key = x.1 ∧ (t.nth i).val = x.2 ∧ (t.nth i).isSome = true := by
  have hi := (List.getElem?_eq_some_iff.1 h).1
  rw [T.n_eq] at hi
  obtain ⟨p, k, v, l, r, e1, e2⟩ := nth_is t i hi
  rw [h] at e2
  cases e2
  rw [e1]
  exact ⟨rfl, rfl, rfl⟩
theorem slice_lo2 {w : World} {ao : Option Addr} {l : List Nm} {n cap : Nat} (hr : RnO w ao l) (hn : n ≤ l.length) (hc : l.length ≤ cap) (ha : ∀ a, ao = some a → a.spot = none) :
    ∃ A, (∀ w', (Instr.slice 27 (.slice ao l.length cap) (some (.int .i64 n)) none none).run Try.prog w' = .ok (.slice A (l.length - n) (cap - n)) w') ∧ RnO w A (l.drop n) ∧ (A = none → ao = none) ∧ (∀ a, A = some a → a.spot = none) := by
  refine ⟨if cap = n then ao else ao.map (fun x => x.add (n * 2)), fun w' => ?_, ?_, ?_, ?_⟩
  · have h2 : (0 : Int) ≤ (n : Int) ∧ (n : Int) ≤ (l.length : Int) := by omega
    simp [Instr.slice, Instr.sliceBounds, Instr.sliceBound, asIntOf, run_underlying Try.underlying27, go_sem, hn, hc, show n ≤ cap by omega, Try.sizeOf44]
  · by_cases h : cap = n
    · rw [if_pos h, List.drop_eq_nil_of_le (by omega)]; exact RnO.nil _ _
    · rw [if_neg h]
      cases ao with
      | none => rw [hr.1 rfl]; simp; exact RnO.nil _ _
      | some a => obtain ⟨b, o, s⟩ := a; have := ha _ rfl; simp only at this; subst this; rw [Option.map_some, add_lit]; exact hr.drop n hn
  · split
    · exact id
    · cases ao <;> simp
  · intro x hx
    split at hx
    · exact ha x hx
    · cases ao with
      | none => cases hx
      | some b => obtain ⟨b1, o1, s1⟩ := b; have := ha _ rfl; simp only at this; subst this; rw [Option.map_some, add_lit] at hx; cases hx; rfl
/-- A map that is what it should be: balanced, in order, not too great. -/
structure Good (w : World) (t : T) : Prop where
  tree : In w t
  bal : t.bal
  srt : Srt t.list
  few : t.n ≤ 5000
theorem Good.below {w w' : World} {t : T} (h : Good w t) (hb : Below w.heap.size w w') : Good w' t := ⟨In.below hb h.tree, h.bal, h.srt, h.few⟩

set_option maxHeartbeats 16000000 in
set_option maxRecDepth 100000 in
theorem tells_any (t : T) (sv : Value) (leave : Int) (k : ByteArray) (w : World) (hg : Good w t) (he : Es w sv t.list) : Calls Try.prog 17 #[mv t, sv, .int .i64 leave, .string k] w fun e w' => e = .returned (.bool true) ∧ Below w.heap.size w w' := by
  have hb0 : Below w.heap.size w (w.alloc (.cells #[t.ptr] 26)) := (Below.refl _ w).alloc (Nat.le_refl _) _
  obtain ⟨wb, hwb⟩ : ∃ wb, wb = w.alloc (.cells #[t.ptr] 26) := ⟨_, rfl⟩
  have hbox : wb.cell? ⟨w.heap.size, 0, none⟩ = some t.ptr := by rw [hwb]; exact cell_new w _ 26
  rw [← hwb] at hb0
  have hlen := T.n_eq t
  have hn5 := hg.few
  have hh60 := low60 hg.bal (by omega)
  have bGet : ∀ W x, Below wb.heap.size wb W → Calls Try.prog 31 #[mv t, .string x] W fun e w' => e = .returned (.tuple #[.int .i64 (t.find x).val, .bool (t.find x).isSome]) ∧ Below W.heap.size W w' := fun W x hW => get_any t x W (In.below (hb0.trans (hW.mono hb0.size)) hg.tree)
  have bAt : ∀ W i, Below wb.heap.size wb W → i ≤ 9223372036854775807 → -9223372036854775808 ≤ i → Calls Try.prog 32 #[mv t, .int .i64 i] W fun e w' => e = .returned (.tuple #[.string (t.nth i).key, .int .i64 (t.nth i).val, .bool (t.nth i).isSome]) ∧ Below W.heap.size W w' := fun W i hW h1 h2 => mAt_any t i W (In.below (hb0.trans (hW.mono hb0.size)) hg.tree) h1 h2 (by omega)
  have bH : ∀ W, Below wb.heap.size wb W → Calls Try.prog 12 #[mv t] W fun e w' => e = .returned (.int .i64 (t.h : Nat)) ∧ Below W.heap.size W w' := fun W hW => mHeight_any t W (In.below (hb0.trans (hW.mono hb0.size)) hg.tree)
  have bL : ∀ W, Below wb.heap.size wb W → Calls Try.prog 19 #[mv t] W fun e w' => e = .returned (.int .i64 (t.n : Nat)) ∧ Below W.heap.size W w' := fun W hW => mLen_any t W (In.below (hb0.trans (hW.mono hb0.size)) hg.tree)
  have bR : ∀ W, Calls Try.prog 23 #[mv t] W fun e w' => e = .returned t.ptr ∧ Below W.heap.size W w' := fun W => mRoot_any t W
  have bM : ∀ W, Below wb.heap.size wb W → Calls Try.prog 30 #[t.ptr] W fun e w' => e = .returned (mv t) ∧ Below W.heap.size W w' := fun W hW => nMap_any t W (In.below (hb0.trans (hW.mono hb0.size)) hg.tree)
  have bS : ∀ W, Below wb.heap.size wb W → Calls Try.prog 15 #[mv t, mv t] W fun e w' => e = .returned (.bool true) ∧ Below W.heap.size W w' := fun W hW => by
    have := mSame_any t t W (In.below (hb0.trans (hW.mono hb0.size)) hg.tree) (In.below (hb0.trans (hW.mono hb0.size)) hg.tree)
    rw [decide_eq_true rfl] at this
    exact this
  have bW : ∀ W, Below wb.heap.size wb W → Calls Try.prog 36 #[t.ptr, .int .i64 0] W fun e w' => e = .returned (.tuple #[.int .i64 (t.h : Nat), .int .i64 (t.n : Nat)]) ∧ w' = W := fun W hW => whole_any t 0 W (In.below (hb0.trans (hW.mono hb0.size)) hg.tree) hg.bal hg.srt (by omega) (by omega)
  have bF : ∀ W, Below wb.heap.size wb W → Calls Try.prog 37 #[mv t] W fun e w' => e = .returned (.tuple #[.string t.first.key, .int .i64 t.first.val, .bool t.first.isSome]) ∧ Below W.heap.size W w' := fun W hW => mFirst_any t W (In.below (hb0.trans (hW.mono hb0.size)) hg.tree)
  have bZ : ∀ W, Below wb.heap.size wb W → Calls Try.prog 38 #[mv t] W fun e w' => e = .returned (.tuple #[.string t.last.key, .int .i64 t.last.val, .bool t.last.isSome]) ∧ Below W.heap.size W w' := fun W hW => mLast_any t W (In.below (hb0.trans (hW.mono hb0.size)) hg.tree)
  have bA : ∀ W, Below wb.heap.size wb W → Calls Try.prog 8 #[sv, .string k] W fun e w' => e = .returned (.tuple #[.int .i64 (pos k t.list : Nat), .bool (has k t.list)]) ∧ ∃ n, w' = W.drewN n := fun W hW => at_any t.list sv k W (he.below (hb0.trans (hW.mono hb0.size))) (by omega)
  have bG : ∀ W v' l' (al : Bool) kk, Below wb.heap.size wb W → Es W v' l' → l'.length ≤ 100000 → (if al then t.list else t.from kk) = l' → Calls Try.prog 39 #[mv t, v', .int .i64 leave, .bool al, .string kk] W fun e w' => e = .returned (.bool true) ∧ Below W.heap.size W w' := fun W v' l' al kk hW h1 h2 h3 => goes_any t l' v' leave al kk W (In.below (hb0.trans (hW.mono hb0.size)) hg.tree) hg.srt h1 h2 h3
  have bN : ∀ W, Below wb.heap.size wb W → Calls Try.prog 40 #[mv t] W fun e w' => e = .returned (.int .i64 (t.n : Nat)) ∧ Below W.heap.size W w' := fun W hW => nodes_any t W (In.below (hb0.trans (hW.mono hb0.size)) hg.tree) hg.srt (by omega)
  have hst := hg.srt
  obtain ⟨ao, cap, rfl, hr, hcap, hnil, hspot⟩ := he.ex
  have hrw : RnO wb ao t.list := hr.below hb0
  obtain ⟨N, hN⟩ : ∃ N, N = t.list.length := ⟨_, rfl⟩
  rw [← hN] at hlen hcap bA ⊢
  rw [← hlen] at bL bW bN hn5
  have hpl := pos_le k t.list
  rw [← hN] at hpl
  have hlo : ∃ A, (∀ W, (Instr.slice 27 (.slice ao N cap) (some (.int .i64 (pos k t.list : Nat))) none none).run Try.prog W = .ok (.slice A (N - pos k t.list) (cap - pos k t.list)) W) ∧ RnO wb A (t.list.drop (pos k t.list)) ∧ (A = none → ao = none) ∧ (∀ a, A = some a → a.spot = none) := by
    have := slice_lo2 (n := pos k t.list) hrw (by rw [← hN]; exact hpl) (by rw [← hN]; exact hcap) hspot
    rw [← hN] at this
    exact this
  obtain ⟨A, hA1, hA2, hA3, hsA⟩ := hlo
  have HE := hide (And.intro hN (And.intro hrw (And.intro hcap (And.intro hnil (And.intro hspot (And.intro hst (And.intro hA2 (And.intro hA3 (And.intro hpl hsA)))))))))
  have HB0 := hide hb0
  have HG := hide bG
  have HAT := hide bAt
  have HGET := hide bGet
  unfold mv at bH bL bR bM bS bF bZ bN
  obtain ⟨a, ha⟩ := t.ptr_shape
  rw [ha] at hbox hwb
  simp only [ha] at bH bL bR bM bS bW bF bZ bN
  unfold mv
  rw [ha]
  have HA := hide ha
  have HWB := hide hwb
  generalize t.h = H at bH bW hh60
  clear hg he hr hrw hcap hnil hspot hst hA2 hA3 hsA hpl bG bAt bGet hb0 hN hlen ha
  have HH60 := hide hh60
  clear hh60
  go_enter Try.func17, Try.ntmps17
  go_upto_region 2 with (first
    | (go_at_call 23; refine (bR _).mono ?_; rintro e w1 ⟨rfl, b1⟩; rw [← HWB.out] at b1; have q0 : w1.cell? ⟨w.heap.size, 0, none⟩ = some (.pointer a) ∧ Hid (Below wb.heap.size wb w1) := ⟨cell_stays hbox b1, hide b1⟩; dsimp only)
    | (go_at_call 36; refine (bW _ b1).mono ?_; rintro e w' ⟨rfl, hw⟩; replace hw := hw.symm; subst hw; dsimp only))
  have qd : w1.drew.cell? ⟨w.heap.size, 0, none⟩ = some (.pointer a) ∧ Hid (Below wb.heap.size wb w1.drew) := ⟨q0.1, hide (q0.2.out.trans ((drew_below w1).mono q0.2.out.size))⟩
  refine wp_region_held_drew (S := (fun w' => w'.cell? ⟨w.heap.size, 0, none⟩ = some (.pointer a) ∧ Hid (Below wb.heap.size wb w'))) (by kernel_rfl) qd (fun hHeld => ?_)
  try dsimp only at hHeld
  refine take_op (i := 0) (d := 37) (OP := Op.move (Operand.tmp 9)) (T := 3) (v := ?vzz1) rfl rfl rfl rfl (by kernel_rfl) (by kernel_rfl) (by kernel_rfl) (fun _ _ _ h => h) (by rfl) ?hzz1 hHeld ?rzz1
  case hzz1 => (intro w' hSw; (try dsimp only at hSw); go_simp <;> with_reducible rfl)
  try simp only [Act.put, List.setIfInBounds_toArray, List.set_cons_zero, List.set_cons_succ]
  refine take_op (i := 1) (d := 38) (OP := Op.load 26 (Operand.tmp 4)) (T := 26) (v := ?vzz2) rfl rfl rfl rfl (by kernel_rfl) (by kernel_rfl) (by kernel_rfl) (fun _ _ _ h => h) (by rfl) ?hzz2 hHeld ?rzz2
  case hzz2 => (intro w' hSw; (try dsimp only at hSw); go_simp <;> with_reducible rfl)
  try simp only [Act.put, List.setIfInBounds_toArray, List.set_cons_zero, List.set_cons_succ]
  refine call_op (i := 2) (d := 39) (OP := Op.call { callee := Callee.value (Operand.func 12), args := #[Operand.tmp 38], argTypes := #[26] }) (T := 3) (f := 12) (args := #[.agg #[.pointer a]]) rfl rfl rfl rfl (by kernel_rfl) (by rfl) (by go_simp) ?_
  refine (bH _ qd.2.out).mono ?_
  rintro e w2 ⟨rfl, bw2⟩
  have qw2 : w2.cell? ⟨w.heap.size, 0, none⟩ = some (.pointer a) ∧ Hid (Below wb.heap.size wb w2) := ⟨cell_stays qd.1 bw2, hide (qd.2.out.trans (bw2.mono qd.2.out.size))⟩
  refine ⟨_, rfl, qw2, ?_⟩
  replace hHeld := qw2
  try simp only [Act.put, List.setIfInBounds_toArray, List.set_cons_zero, List.set_cons_succ]
  refine take_op (i := 3) (d := 40) (OP := Op.binOp BinOp.neq 3 (Operand.tmp 37) (Operand.tmp 39) 3) (T := 4) (v := ?vzz3) rfl rfl rfl rfl (by kernel_rfl) (by kernel_rfl) (by kernel_rfl) (fun _ _ _ h => h) (by rfl) ?hzz3 hHeld ?rzz3
  case hzz3 => (intro w' hSw; (try dsimp only at hSw); go_simp <;> with_reducible rfl)
  try simp only [Act.put, List.setIfInBounds_toArray, List.set_cons_zero, List.set_cons_succ]
  refine take_op (i := 4) (d := 41) (OP := Op.move (Operand.tmp 40)) (T := 4) (v := ?vzz4) rfl rfl rfl rfl (by kernel_rfl) (by kernel_rfl) (by kernel_rfl) (fun _ _ _ h => h) (by rfl) ?hzz4 hHeld ?rzz4
  case hzz4 => (intro w' hSw; (try dsimp only at hSw); go_simp <;> with_reducible rfl)
  try simp only [Act.put, List.setIfInBounds_toArray, List.set_cons_zero, List.set_cons_succ]
  refine take_op (i := 5) (d := 42) (OP := Op.move (Operand.tmp 10)) (T := 3) (v := ?vzz5) rfl rfl rfl rfl (by kernel_rfl) (by kernel_rfl) (by kernel_rfl) (fun _ _ _ h => h) (by rfl) ?hzz5 hHeld ?rzz5
  case hzz5 => (intro w' hSw; (try dsimp only at hSw); go_simp <;> with_reducible rfl)
  try simp only [Act.put, List.setIfInBounds_toArray, List.set_cons_zero, List.set_cons_succ]
  refine take_op (i := 6) (d := 43) (OP := Op.move (Operand.tmp 1)) (T := 27) (v := ?vzz6) rfl rfl rfl rfl (by kernel_rfl) (by kernel_rfl) (by kernel_rfl) (fun _ _ _ h => h) (by rfl) ?hzz6 hHeld ?rzz6
  case hzz6 => (intro w' hSw; (try dsimp only at hSw); go_simp <;> with_reducible rfl)
  try simp only [Act.put, List.setIfInBounds_toArray, List.set_cons_zero, List.set_cons_succ]
  refine take_op (i := 7) (d := 44) (OP := Op.call { callee := Callee.builtin Builtin.len, args := #[Operand.tmp 43], argTypes := #[27] }) (T := 3) (v := ?vzz7) rfl rfl rfl rfl (by kernel_rfl) (by kernel_rfl) (by kernel_rfl) (fun _ _ _ h => h) (by rfl) ?hzz7 hHeld ?rzz7
  case hzz7 => (intro w' hSw; (try dsimp only at hSw); go_simp <;> with_reducible rfl)
  try simp only [Act.put, List.setIfInBounds_toArray, List.set_cons_zero, List.set_cons_succ]
  refine take_op (i := 8) (d := 45) (OP := Op.binOp BinOp.neq 3 (Operand.tmp 42) (Operand.tmp 44) 3) (T := 4) (v := ?vzz8) rfl rfl rfl rfl (by kernel_rfl) (by kernel_rfl) (by kernel_rfl) (fun _ _ _ h => h) (by rfl) ?hzz8 hHeld ?rzz8
  case hzz8 => (intro w' hSw; (try dsimp only at hSw); go_simp <;> with_reducible rfl)
  try simp only [Act.put, List.setIfInBounds_toArray, List.set_cons_zero, List.set_cons_succ]
  refine take_op (i := 9) (d := 46) (OP := Op.pick (Operand.tmp 41) (Operand.const (Value.bool true)) (Operand.tmp 45)) (T := 4) (v := ?vzz9) rfl rfl rfl rfl (by kernel_rfl) (by kernel_rfl) (by kernel_rfl) (fun _ _ _ h => h) (by rfl) ?hzz9 hHeld ?rzz9
  case hzz9 => (intro w' hSw; (try dsimp only at hSw); go_simp <;> with_reducible rfl)
  try simp only [Act.put, List.setIfInBounds_toArray, List.set_cons_zero, List.set_cons_succ]
  refine take_op (i := 10) (d := 47) (OP := Op.move (Operand.tmp 46)) (T := 4) (v := ?vzz10) rfl rfl rfl rfl (by kernel_rfl) (by kernel_rfl) (by kernel_rfl) (fun _ _ _ h => h) (by rfl) ?hzz10 hHeld ?rzz10
  case hzz10 => (intro w' hSw; (try dsimp only at hSw); go_simp <;> with_reducible rfl)
  try simp only [Act.put, List.setIfInBounds_toArray, List.set_cons_zero, List.set_cons_succ]
  refine take_op (i := 11) (d := 48) (OP := Op.load 26 (Operand.tmp 4)) (T := 26) (v := ?vzz11) rfl rfl rfl rfl (by kernel_rfl) (by kernel_rfl) (by kernel_rfl) (fun _ _ _ h => h) (by rfl) ?hzz11 hHeld ?rzz11
  case hzz11 => (intro w' hSw; (try dsimp only at hSw); go_simp <;> with_reducible rfl)
  try simp only [Act.put, List.setIfInBounds_toArray, List.set_cons_zero, List.set_cons_succ]
  refine take_op (i := 13) (d := 50) (OP := Op.move (Operand.tmp 1)) (T := 27) (v := ?vzz12) rfl rfl rfl rfl (by kernel_rfl) (by kernel_rfl) (by kernel_rfl) (fun _ _ _ h => h) (by rfl) ?hzz12 hHeld ?rzz12
  case hzz12 => (intro w' hSw; (try dsimp only at hSw); go_simp <;> with_reducible rfl)
  try simp only [Act.put, List.setIfInBounds_toArray, List.set_cons_zero, List.set_cons_succ]
  refine take_op (i := 14) (d := 51) (OP := Op.call { callee := Callee.builtin Builtin.len, args := #[Operand.tmp 50], argTypes := #[27] }) (T := 3) (v := ?vzz13) rfl rfl rfl rfl (by kernel_rfl) (by kernel_rfl) (by kernel_rfl) (fun _ _ _ h => h) (by rfl) ?hzz13 hHeld ?rzz13
  case hzz13 => (intro w' hSw; (try dsimp only at hSw); go_simp <;> with_reducible rfl)
  try simp only [Act.put, List.setIfInBounds_toArray, List.set_cons_zero, List.set_cons_succ]
  refine call_op (i := 12) (d := 49) (OP := Op.call { callee := Callee.value (Operand.func 19), args := #[Operand.tmp 48], argTypes := #[26] }) (T := 3) (f := 19) (args := #[.agg #[.pointer a]]) rfl rfl rfl rfl (by kernel_rfl) (by rfl) (by go_simp) ?_
  refine (bL _ qw2.2.out).mono ?_
  rintro e w3 ⟨rfl, bw3⟩
  have qw3 : w3.cell? ⟨w.heap.size, 0, none⟩ = some (.pointer a) ∧ Hid (Below wb.heap.size wb w3) := ⟨cell_stays qw2.1 bw3, hide (qw2.2.out.trans (bw3.mono qw2.2.out.size))⟩
  refine ⟨_, rfl, qw3, ?_⟩
  replace hHeld := qw3
  try simp only [Act.put, List.setIfInBounds_toArray, List.set_cons_zero, List.set_cons_succ]
  refine take_op (i := 15) (d := 52) (OP := Op.binOp BinOp.neq 3 (Operand.tmp 49) (Operand.tmp 51) 3) (T := 4) (v := ?vzz14) rfl rfl rfl rfl (by kernel_rfl) (by kernel_rfl) (by kernel_rfl) (fun _ _ _ h => h) (by rfl) ?hzz14 hHeld ?rzz14
  case hzz14 => (intro w' hSw; (try dsimp only at hSw); go_simp <;> with_reducible rfl)
  try simp only [Act.put, List.setIfInBounds_toArray, List.set_cons_zero, List.set_cons_succ]
  refine take_op (i := 16) (d := 53) (OP := Op.pick (Operand.tmp 47) (Operand.const (Value.bool true)) (Operand.tmp 52)) (T := 4) (v := ?vzz15) rfl rfl rfl rfl (by kernel_rfl) (by kernel_rfl) (by kernel_rfl) (fun _ _ _ h => h) (by rfl) ?hzz15 hHeld ?rzz15
  case hzz15 => (intro w' hSw; (try dsimp only at hSw); go_simp <;> with_reducible rfl)
  try simp only [Act.put, List.setIfInBounds_toArray, List.set_cons_zero, List.set_cons_succ]
  refine take_op (i := 17) (d := 54) (OP := Op.move (Operand.tmp 53)) (T := 4) (v := ?vzz16) rfl rfl rfl rfl (by kernel_rfl) (by kernel_rfl) (by kernel_rfl) (fun _ _ _ h => h) (by rfl) ?hzz16 hHeld ?rzz16
  case hzz16 => (intro w' hSw; (try dsimp only at hSw); go_simp <;> with_reducible rfl)
  try simp only [Act.put, List.setIfInBounds_toArray, List.set_cons_zero, List.set_cons_succ]
  refine take_op (i := 18) (d := 55) (OP := Op.load 26 (Operand.tmp 4)) (T := 26) (v := ?vzz17) rfl rfl rfl rfl (by kernel_rfl) (by kernel_rfl) (by kernel_rfl) (fun _ _ _ h => h) (by rfl) ?hzz17 hHeld ?rzz17
  case hzz17 => (intro w' hSw; (try dsimp only at hSw); go_simp <;> with_reducible rfl)
  try simp only [Act.put, List.setIfInBounds_toArray, List.set_cons_zero, List.set_cons_succ]
  refine take_op (i := 21) (d := 58) (OP := Op.load 26 (Operand.tmp 4)) (T := 26) (v := ?vzz18) rfl rfl rfl rfl (by kernel_rfl) (by kernel_rfl) (by kernel_rfl) (fun _ _ _ h => h) (by rfl) ?hzz18 hHeld ?rzz18
  case hzz18 => (intro w' hSw; (try dsimp only at hSw); go_simp <;> with_reducible rfl)
  try simp only [Act.put, List.setIfInBounds_toArray, List.set_cons_zero, List.set_cons_succ]
  refine call_op (i := 19) (d := 56) (OP := Op.call { callee := Callee.value (Operand.func 23), args := #[Operand.tmp 55], argTypes := #[26] }) (T := 24) (f := 23) (args := #[.agg #[.pointer a]]) rfl rfl rfl rfl (by kernel_rfl) (by rfl) (by go_simp) ?_
  refine (bR _).mono ?_
  rintro e w4 ⟨rfl, bw4⟩
  have qw4 : w4.cell? ⟨w.heap.size, 0, none⟩ = some (.pointer a) ∧ Hid (Below wb.heap.size wb w4) := ⟨cell_stays qw3.1 bw4, hide (qw3.2.out.trans (bw4.mono qw3.2.out.size))⟩
  refine ⟨_, rfl, qw4, ?_⟩
  replace hHeld := qw4
  try simp only [Act.put, List.setIfInBounds_toArray, List.set_cons_zero, List.set_cons_succ]
  refine call_op (i := 20) (d := 57) (OP := Op.call { callee := Callee.value (Operand.func 30), args := #[Operand.tmp 56], argTypes := #[24] }) (T := 26) (f := 30) (args := #[.pointer a]) rfl rfl rfl rfl (by kernel_rfl) (by rfl) (by go_simp) ?_
  refine (bM _ qw4.2.out).mono ?_
  rintro e w5 ⟨rfl, bw5⟩
  have qw5 : w5.cell? ⟨w.heap.size, 0, none⟩ = some (.pointer a) ∧ Hid (Below wb.heap.size wb w5) := ⟨cell_stays qw4.1 bw5, hide (qw4.2.out.trans (bw5.mono qw4.2.out.size))⟩
  refine ⟨_, rfl, qw5, ?_⟩
  replace hHeld := qw5
  try simp only [Act.put, List.setIfInBounds_toArray, List.set_cons_zero, List.set_cons_succ]
  refine call_op (i := 22) (d := 59) (OP := Op.call { callee := Callee.value (Operand.func 15), args := #[Operand.tmp 57, Operand.tmp 58], argTypes := #[26, 26] }) (T := 4) (f := 15) (args := #[.agg #[.pointer a], .agg #[.pointer a]]) rfl rfl rfl rfl (by kernel_rfl) (by rfl) (by go_simp) ?_
  refine (bS _ qw5.2.out).mono ?_
  rintro e w6 ⟨rfl, bw6⟩
  have qw6 : w6.cell? ⟨w.heap.size, 0, none⟩ = some (.pointer a) ∧ Hid (Below wb.heap.size wb w6) := ⟨cell_stays qw5.1 bw6, hide (qw5.2.out.trans (bw6.mono qw5.2.out.size))⟩
  refine ⟨_, rfl, qw6, ?_⟩
  replace hHeld := qw6
  try simp only [Act.put, List.setIfInBounds_toArray, List.set_cons_zero, List.set_cons_succ]
  refine take_op (i := 23) (d := 60) (OP := Op.unOp UnOp.not 4 (Operand.tmp 59)) (T := 4) (v := ?vzz19) rfl rfl rfl rfl (by kernel_rfl) (by kernel_rfl) (by kernel_rfl) (fun _ _ _ h => h) (by rfl) ?hzz19 hHeld ?rzz19
  case hzz19 => (intro w' hSw; (try dsimp only at hSw); go_simp <;> with_reducible rfl)
  try simp only [Act.put, List.setIfInBounds_toArray, List.set_cons_zero, List.set_cons_succ]
  refine take_op (i := 24) (d := 61) (OP := Op.pick (Operand.tmp 54) (Operand.const (Value.bool true)) (Operand.tmp 60)) (T := 4) (v := ?vzz20) rfl rfl rfl rfl (by kernel_rfl) (by kernel_rfl) (by kernel_rfl) (fun _ _ _ h => h) (by rfl) ?hzz20 hHeld ?rzz20
  case hzz20 => (intro w' hSw; (try dsimp only at hSw); go_simp <;> with_reducible rfl)
  try simp only [Act.put, List.setIfInBounds_toArray, List.set_cons_zero, List.set_cons_succ]
  refine wpAnyH_done (by kernel_rfl) ?_ _
  clear bH bL bM bS bW q0 qd qw2 qw3 qw4 qw5 hbox
  go_wp2
  go_loopw [11] (fun v11 wr => ∃ i : Nat, i ≤ N ∧ v11 = .int .i64 i ∧ wr.cell? ⟨w.heap.size, 0, none⟩ = some (.pointer a) ∧ Hid (Below wb.heap.size wb wr)) (fun v11 _ => N - (intOf v11).toNat)
  case atStart => exact ⟨0, by omega, rfl, qw6.1, qw6.2⟩
  case round =>
    obtain ⟨i, hi, rfl, qb, qB⟩ := hrel
    by_cases hiN : i < N
    · have z1 : (i : Int) < (N : Int) := by omega
      have hx : t.list[i]? = some (t.list[i]'(by rw [← HE.out.1]; exact hiN)) := List.getElem?_eq_getElem _
      generalize t.list[i]'(by rw [← HE.out.1]; exact hiN) = x at hx
      obtain ⟨b, off, hao, c0, c1⟩ := HE.out.2.1.at HE.out.2.2.2.2.1 hx
      have q0 : wr.cell? ⟨w.heap.size, 0, none⟩ = some (.pointer a) ∧ wr.cell? ⟨b, off + i * 2, none⟩ = some (.string x.1) ∧ wr.cell? ⟨b, off + i * 2 + 1, none⟩ = some (.int .i64 x.2) ∧ Hid (Below wb.heap.size wb wr) := ⟨qb, cell_stays c0 qB.out, cell_stays c1 qB.out, qB⟩
      have g1 : ∀ W, Below wb.heap.size wb W → Calls Try.prog 31 #[.agg #[.pointer a], .string x.1] W fun e w' => e = .returned (.tuple #[.int .i64 x.2, .bool true]) ∧ Below W.heap.size W w' := fun W hW => by
        have := HGET.out W x.1 hW
        rw [(find_list HE.out.2.2.2.2.2.1 hx).1, (find_list HE.out.2.2.2.2.2.1 hx).2] at this
        unfold mv at this
        rw [HA.out] at this
        exact this
      have g2 : ∀ W, Below wb.heap.size wb W → Calls Try.prog 32 #[.agg #[.pointer a], .int .i64 i] W fun e w' => e = .returned (.tuple #[.string x.1, .int .i64 x.2, .bool true]) ∧ Below W.heap.size W w' := fun W hW => by
        have := HAT.out W i hW (by omega) (by omega)
        rw [(nth_list hx).1, (nth_list hx).2.1, (nth_list hx).2.2] at this
        unfold mv at this
        rw [HA.out] at this
        exact this
      subst hao
      clear hx c0 c1 qb
      have qb2 := qB
      clear qB
      go_upto_region 7 with (fail)
      have qd : wr.drew.cell? ⟨w.heap.size, 0, none⟩ = some (.pointer a) ∧ wr.drew.cell? ⟨b, off + i * 2, none⟩ = some (.string x.1) ∧ wr.drew.cell? ⟨b, off + i * 2 + 1, none⟩ = some (.int .i64 x.2) ∧ Hid (Below wb.heap.size wb wr.drew) := ⟨q0.1, q0.2.1, q0.2.2.1, hide (q0.2.2.2.out.trans ((drew_below wr).mono q0.2.2.2.out.size))⟩
      refine wp_region_held_drew (S := (fun w' => w'.cell? ⟨w.heap.size, 0, none⟩ = some (.pointer a) ∧ w'.cell? ⟨b, off + i * 2, none⟩ = some (.string x.1) ∧ w'.cell? ⟨b, off + i * 2 + 1, none⟩ = some (.int .i64 x.2) ∧ Hid (Below wb.heap.size wb w'))) (by kernel_rfl) qd (fun hHeld => ?_)
      try dsimp only at hHeld
      refine take_op (i := 0) (d := 69) (OP := Op.load 26 (Operand.tmp 4)) (T := 26) (v := ?vzz21) rfl rfl rfl rfl (by kernel_rfl) (by kernel_rfl) (by kernel_rfl) (fun _ _ _ h => h) (by rfl) ?hzz21 hHeld ?rzz21
      case hzz21 => (intro w' hSw; (try dsimp only at hSw); go_simp <;> with_reducible rfl)
      try simp only [Act.put, List.setIfInBounds_toArray, List.set_cons_zero, List.set_cons_succ]
      refine take_op (i := 1) (d := 70) (OP := Op.move (Operand.tmp 1)) (T := 27) (v := ?vzz22) rfl rfl rfl rfl (by kernel_rfl) (by kernel_rfl) (by kernel_rfl) (fun _ _ _ h => h) (by rfl) ?hzz22 hHeld ?rzz22
      case hzz22 => (intro w' hSw; (try dsimp only at hSw); go_simp <;> with_reducible rfl)
      try simp only [Act.put, List.setIfInBounds_toArray, List.set_cons_zero, List.set_cons_succ]
      refine take_op (i := 2) (d := 71) (OP := Op.move (Operand.tmp 11)) (T := 3) (v := ?vzz23) rfl rfl rfl rfl (by kernel_rfl) (by kernel_rfl) (by kernel_rfl) (fun _ _ _ h => h) (by rfl) ?hzz23 hHeld ?rzz23
      case hzz23 => (intro w' hSw; (try dsimp only at hSw); go_simp <;> with_reducible rfl)
      try simp only [Act.put, List.setIfInBounds_toArray, List.set_cons_zero, List.set_cons_succ]
      refine take_op (i := 3) (d := 72) (OP := Op.indexAddr 27 (Operand.tmp 70) (Operand.tmp 71)) (T := 0) (v := ?vzz24) rfl rfl rfl rfl (by kernel_rfl) (by kernel_rfl) (by kernel_rfl) (fun _ _ _ h => h) (by rfl) ?hzz24 hHeld ?rzz24
      case hzz24 => (intro w' hSw; (try dsimp only at hSw); go_simp <;> with_reducible rfl)
      try simp only [Act.put, List.setIfInBounds_toArray, List.set_cons_zero, List.set_cons_succ]
      refine take_op (i := 4) (d := 73) (OP := Op.fieldAddr 44 (Operand.tmp 72) 0) (T := 0) (v := ?vzz25) rfl rfl rfl rfl (by kernel_rfl) (by kernel_rfl) (by kernel_rfl) (fun _ _ _ h => h) (by rfl) ?hzz25 hHeld ?rzz25
      case hzz25 => (intro w' hSw; (try dsimp only at hSw); go_simp <;> with_reducible rfl)
      try simp only [Act.put, List.setIfInBounds_toArray, List.set_cons_zero, List.set_cons_succ]
      refine take_op (i := 5) (d := 74) (OP := Op.load 9 (Operand.tmp 73)) (T := 9) (v := ?vzz26) rfl rfl rfl rfl (by kernel_rfl) (by kernel_rfl) (by kernel_rfl) (fun _ _ _ h => h) (by rfl) ?hzz26 hHeld ?rzz26
      case hzz26 => (intro w' hSw; (try dsimp only at hSw); go_simp <;> with_reducible rfl)
      try simp only [Act.put, List.setIfInBounds_toArray, List.set_cons_zero, List.set_cons_succ]
      refine call_op (i := 6) (d := 75) (OP := Op.call { callee := Callee.value (Operand.func 31), args := #[Operand.tmp 69, Operand.tmp 74], argTypes := #[26, 9] }) (T := 32) (f := 31) (args := #[.agg #[.pointer a], .string x.1]) rfl rfl rfl rfl (by kernel_rfl) (by rfl) (by go_simp) ?_
      refine (g1 _ qd.2.2.2.out).mono ?_
      rintro e w7 ⟨rfl, bw7⟩
      have qw7 : w7.cell? ⟨w.heap.size, 0, none⟩ = some (.pointer a) ∧ w7.cell? ⟨b, off + i * 2, none⟩ = some (.string x.1) ∧ w7.cell? ⟨b, off + i * 2 + 1, none⟩ = some (.int .i64 x.2) ∧ Hid (Below wb.heap.size wb w7) := ⟨cell_stays qd.1 bw7, cell_stays qd.2.1 bw7, cell_stays qd.2.2.1 bw7, hide (qd.2.2.2.out.trans (bw7.mono qd.2.2.2.out.size))⟩
      refine ⟨_, rfl, qw7, ?_⟩
      replace hHeld := qw7
      try simp only [Act.put, List.setIfInBounds_toArray, List.set_cons_zero, List.set_cons_succ]
      refine take_op (i := 7) (d := 68) (OP := Op.move (Operand.tmp 75)) (T := 32) (v := ?vzz27) rfl rfl rfl rfl (by kernel_rfl) (by kernel_rfl) (by kernel_rfl) (fun _ _ _ h => h) (by rfl) ?hzz27 hHeld ?rzz27
      case hzz27 => (intro w' hSw; (try dsimp only at hSw); go_simp <;> with_reducible rfl)
      try simp only [Act.put, List.setIfInBounds_toArray, List.set_cons_zero, List.set_cons_succ]
      refine take_op (i := 8) (d := 76) (OP := Op.extract (Operand.tmp 68) 0) (T := 3) (v := ?vzz28) rfl rfl rfl rfl (by kernel_rfl) (by kernel_rfl) (by kernel_rfl) (fun _ _ _ h => h) (by rfl) ?hzz28 hHeld ?rzz28
      case hzz28 => (intro w' hSw; (try dsimp only at hSw); go_simp <;> with_reducible rfl)
      try simp only [Act.put, List.setIfInBounds_toArray, List.set_cons_zero, List.set_cons_succ]
      refine take_op (i := 9) (d := 77) (OP := Op.extract (Operand.tmp 68) 1) (T := 4) (v := ?vzz29) rfl rfl rfl rfl (by kernel_rfl) (by kernel_rfl) (by kernel_rfl) (fun _ _ _ h => h) (by rfl) ?hzz29 hHeld ?rzz29
      case hzz29 => (intro w' hSw; (try dsimp only at hSw); go_simp <;> with_reducible rfl)
      try simp only [Act.put, List.setIfInBounds_toArray, List.set_cons_zero, List.set_cons_succ]
      refine take_op (i := 10) (d := 12) (OP := Op.assign (Operand.tmp 76)) (T := 3) (v := ?vzz30) rfl rfl rfl rfl (by kernel_rfl) (by kernel_rfl) (by kernel_rfl) (fun _ _ _ h => h) (by rfl) ?hzz30 hHeld ?rzz30
      case hzz30 => (intro w' hSw; (try dsimp only at hSw); go_simp <;> with_reducible rfl)
      try simp only [Act.put, List.setIfInBounds_toArray, List.set_cons_zero, List.set_cons_succ]
      refine take_op (i := 11) (d := 13) (OP := Op.assign (Operand.tmp 77)) (T := 4) (v := ?vzz31) rfl rfl rfl rfl (by kernel_rfl) (by kernel_rfl) (by kernel_rfl) (fun _ _ _ h => h) (by rfl) ?hzz31 hHeld ?rzz31
      case hzz31 => (intro w' hSw; (try dsimp only at hSw); go_simp <;> with_reducible rfl)
      try simp only [Act.put, List.setIfInBounds_toArray, List.set_cons_zero, List.set_cons_succ]
      refine wpAnyH_done (by kernel_rfl) ?_ _
      clear q0 qd qb2
      go_wp2_with (go_at_call 32; refine (g2 _ qw7.2.2.2.out).mono ?_; rintro e w8 ⟨rfl, b8⟩; have q8 : w8.cell? ⟨w.heap.size, 0, none⟩ = some (.pointer a) ∧ w8.cell? ⟨b, off + i * 2, none⟩ = some (.string x.1) ∧ w8.cell? ⟨b, off + i * 2 + 1, none⟩ = some (.int .i64 x.2) ∧ Hid (Below wb.heap.size wb w8) := ⟨cell_stays qw7.1 b8, cell_stays qw7.2.1 b8, cell_stays qw7.2.2.1 b8, hide (qw7.2.2.2.out.trans (b8.mono qw7.2.2.2.out.size))⟩; dsimp only)
      go_roundw
      case rel => exact ⟨i + 1, by omega, by go_num, q8.1, q8.2.2.2⟩
      case measure => simp [intOf]; omega
    · have hN : i = N := by omega
      subst hN
      have z2 : decide ((i : Int) < (i : Int)) = false := by simp
      have q0 : wr.cell? ⟨w.heap.size, 0, none⟩ = some (.pointer a) ∧ Hid (Below wb.heap.size wb wr) := ⟨qb, qB⟩
      have hEs : ∀ W, Below wb.heap.size wb W → Es W (.slice ao i cap) t.list := fun W hW => ⟨ao, cap, by rw [← HE.out.1], HE.out.2.1.below hW, by rw [← HE.out.1]; exact HE.out.2.2.1, HE.out.2.2.2.1, HE.out.2.2.2.2.1⟩
      have gA : ∀ W, Below wb.heap.size wb W → Calls Try.prog 39 #[.agg #[.pointer a], .slice ao i cap, .int .i64 leave, .bool true, .string ⟨#[]⟩] W fun e w' => e = .returned (.bool true) ∧ Below W.heap.size W w' := fun W hW => by
        have := HG.out W _ t.list true ⟨#[]⟩ hW (hEs W hW) (by rw [← HE.out.1]; omega) rfl
        unfold mv at this
        rw [HA.out] at this
        exact this
      have gB : ∀ W, Below wb.heap.size wb W → Calls Try.prog 39 #[.agg #[.pointer a], .slice A (i - pos k t.list) (cap - pos k t.list), .int .i64 leave, .bool false, .string k] W fun e w' => e = .returned (.bool true) ∧ Below W.heap.size W w' := fun W hW => by
        have hdl : (t.list.drop (pos k t.list)).length = i - pos k t.list := by rw [List.length_drop, ← HE.out.1]
        have := HG.out W (.slice A (i - pos k t.list) (cap - pos k t.list)) (t.list.drop (pos k t.list)) false k hW ⟨A, cap - pos k t.list, by rw [hdl], HE.out.2.2.2.2.2.2.1.below hW, by rw [hdl]; have := HE.out.2.2.1; omega, fun e => by rw [HE.out.2.2.2.1 (HE.out.2.2.2.2.2.2.2.1 e)]; omega, HE.out.2.2.2.2.2.2.2.2.2⟩ (by rw [hdl]; omega) (by simp only [Bool.false_eq_true, if_false]; exact from_is k HE.out.2.2.2.2.2.1)
        unfold mv at this
        rw [HA.out] at this
        exact this
      obtain ⟨E, hE⟩ : ∃ E : ByteArray, E = ⟨#[]⟩ := ⟨_, rfl⟩
      have hE1 : E.toList.isEmpty = true := by rw [hE, ByteArray.toList_eq]; rfl
      have gL : ∀ W, Below wb.heap.size wb W → Calls Try.prog 32 #[.agg #[.pointer a], .int .i64 (-1)] W fun e w' => e = .returned (.tuple #[.string E, .int .i64 0, .bool false]) ∧ Below W.heap.size W w' := fun W hW => by
        have := HAT.out W (-1) hW (by omega) (by omega)
        rw [nth_low t (-1) (by omega)] at this
        unfold mv at this
        rw [HA.out] at this
        rw [hE]
        exact this
      have gN : ∀ W, Below wb.heap.size wb W → Calls Try.prog 32 #[.agg #[.pointer a], .int .i64 i] W fun e w' => e = .returned (.tuple #[.string E, .int .i64 0, .bool false]) ∧ Below W.heap.size W w' := fun W hW => by
        have := HAT.out W i hW (by omega) (by omega)
        rw [nth_high t i (by rw [← T.n_eq, ← HE.out.1]; omega)] at this
        unfold mv at this
        rw [HA.out] at this
        rw [hE]
        exact this
      have HEs := hide hEs
      have HEE := hide hE
      clear hE
      have HI := hide hn5
      clear hi hiN qb qB hEs qw6 hHeld bR
      by_cases hz : i = 0
      · have ht : t = .nil := by
          cases t with
          | nil => rfl
          | node p k' v' l r =>
            have := HE.out.1
            rw [hz] at this
            simp [T.list] at this
        rw [ht] at bF bZ
        have e1 : T.nil.first = .nil := rfl
        have e2 : T.nil.last = .nil := rfl
        rw [e1] at bF
        rw [e2] at bZ
        have e3 : T.nil.key = E := HEE.out.symm
        have e4 : T.nil.val = 0 := rfl
        have e5 : T.nil.isSome = false := rfl
        rw [e3, e4, e5] at bF bZ
        clear e1 e2 e3 e4 e5
        subst hz
        clear ht
        go_upto_region 13 with (first
          | (go_at_call 37; refine (bF _ q0.2.out).mono ?_; rintro e w7 ⟨rfl, b7⟩; have q7 : w7.cell? ⟨w.heap.size, 0, none⟩ = some (.pointer a) ∧ Hid (Below wb.heap.size wb w7) := ⟨cell_stays q0.1 b7, hide (q0.2.out.trans (b7.mono q0.2.out.size))⟩; dsimp only)
          | (go_at_call 38; refine (bZ _ q7.2.out).mono ?_; rintro e w8 ⟨rfl, b8⟩; have q8 : w8.cell? ⟨w.heap.size, 0, none⟩ = some (.pointer a) ∧ Hid (Below wb.heap.size wb w8) := ⟨cell_stays q7.1 b8, hide (q7.2.out.trans (b8.mono q7.2.out.size))⟩; dsimp only))
        dsimp only [List.append]
        have tk : True := trivial
        go_upto_region 20 with (first
          | (go_at_call 32; clear tk; refine (gL _ q8.2.out).mono ?_; rintro e w9 ⟨rfl, b9⟩; have q9 : w9.cell? ⟨w.heap.size, 0, none⟩ = some (.pointer a) ∧ Hid (Below wb.heap.size wb w9) := ⟨cell_stays q8.1 b9, hide (q8.2.out.trans (b9.mono q8.2.out.size))⟩; dsimp only)
          | (go_at_call 32; refine (gN _ q9.2.out).mono ?_; rintro e w10 ⟨rfl, b10⟩; have q10 : w10.cell? ⟨w.heap.size, 0, none⟩ = some (.pointer a) ∧ Hid (Below wb.heap.size wb w10) := ⟨cell_stays q9.1 b10, hide (q9.2.out.trans (b10.mono q9.2.out.size))⟩; dsimp only)
          | (go_at_call 8; refine (bA _ q10.2.out).mono ?_; rintro e w11 ⟨rfl, n11, h11⟩; have b11 : Below w10.heap.size w10 w11 := by rw [h11]; exact below_drew _ _
             have q11 : w11.cell? ⟨w.heap.size, 0, none⟩ = some (.pointer a) ∧ Hid (Below wb.heap.size wb w11) := ⟨cell_stays q10.1 b11, hide (q10.2.out.trans (b11.mono q10.2.out.size))⟩; clear h11; dsimp only))
        clear q0 q7 q8 q9 q10 gL gN bA bF bZ
        have qd : w11.drew.cell? ⟨w.heap.size, 0, none⟩ = some (.pointer a) ∧ Hid (Below wb.heap.size wb w11.drew) := ⟨q11.1, hide (q11.2.out.trans ((drew_below w11).mono q11.2.out.size))⟩
        refine wp_region_held_drew (S := (fun w' => w'.cell? ⟨w.heap.size, 0, none⟩ = some (.pointer a) ∧ Hid (Below wb.heap.size wb w'))) (by kernel_rfl) qd (fun hHeld => ?_)
        try dsimp only at hHeld
        refine take_op (i := 0) (d := 237) (OP := Op.load 26 (Operand.tmp 4)) (T := 26) (v := ?vzz32) rfl rfl rfl rfl (by kernel_rfl) (by kernel_rfl) (by kernel_rfl) (fun _ _ _ h => h) (by rfl) ?hzz32 hHeld ?rzz32
        case hzz32 => (intro w' hSw; (try dsimp only at hSw); go_simp <;> with_reducible rfl)
        try simp only [Act.put, List.setIfInBounds_toArray, List.set_cons_zero, List.set_cons_succ]
        refine take_op (i := 1) (d := 238) (OP := Op.move (Operand.tmp 1)) (T := 27) (v := ?vzz33) rfl rfl rfl rfl (by kernel_rfl) (by kernel_rfl) (by kernel_rfl) (fun _ _ _ h => h) (by rfl) ?hzz33 hHeld ?rzz33
        case hzz33 => (intro w' hSw; (try dsimp only at hSw); go_simp <;> with_reducible rfl)
        try simp only [Act.put, List.setIfInBounds_toArray, List.set_cons_zero, List.set_cons_succ]
        refine take_op (i := 2) (d := 239) (OP := Op.move (Operand.tmp 2)) (T := 3) (v := ?vzz34) rfl rfl rfl rfl (by kernel_rfl) (by kernel_rfl) (by kernel_rfl) (fun _ _ _ h => h) (by rfl) ?hzz34 hHeld ?rzz34
        case hzz34 => (intro w' hSw; (try dsimp only at hSw); go_simp <;> with_reducible rfl)
        try simp only [Act.put, List.setIfInBounds_toArray, List.set_cons_zero, List.set_cons_succ]
        refine call_op (i := 3) (d := 240) (OP := Op.call { callee := Callee.value (Operand.func 39), args := #[Operand.tmp 237, Operand.tmp 238, Operand.tmp 239, Operand.const (Value.bool true), Operand.const (Value.string { data := #[] })], argTypes := #[26, 27, 3, 4, 9] }) (T := 4) (f := 39) (args := #[.agg #[.pointer a], .slice ao 0 cap, .int .i64 leave, .bool true, .string ⟨#[]⟩]) rfl rfl rfl rfl (by kernel_rfl) (by rfl) (by go_simp) ?_
        refine (gA _ qd.2.out).mono ?_
        rintro e w12 ⟨rfl, bw12⟩
        have qw12 : w12.cell? ⟨w.heap.size, 0, none⟩ = some (.pointer a) ∧ Hid (Below wb.heap.size wb w12) := ⟨cell_stays qd.1 bw12, hide (qd.2.out.trans (bw12.mono qd.2.out.size))⟩
        refine ⟨_, rfl, qw12, ?_⟩
        replace hHeld := qw12
        try simp only [Act.put, List.setIfInBounds_toArray, List.set_cons_zero, List.set_cons_succ]
        refine take_op (i := 4) (d := 241) (OP := Op.move (Operand.tmp 240)) (T := 4) (v := ?vzz35) rfl rfl rfl rfl (by kernel_rfl) (by kernel_rfl) (by kernel_rfl) (fun _ _ _ h => h) (by rfl) ?hzz35 hHeld ?rzz35
        case hzz35 => (intro w' hSw; (try dsimp only at hSw); go_simp <;> with_reducible rfl)
        try simp only [Act.put, List.setIfInBounds_toArray, List.set_cons_zero, List.set_cons_succ]
        refine take_op (i := 5) (d := 242) (OP := Op.load 26 (Operand.tmp 4)) (T := 26) (v := ?vzz36) rfl rfl rfl rfl (by kernel_rfl) (by kernel_rfl) (by kernel_rfl) (fun _ _ _ h => h) (by rfl) ?hzz36 hHeld ?rzz36
        case hzz36 => (intro w' hSw; (try dsimp only at hSw); go_simp <;> with_reducible rfl)
        try simp only [Act.put, List.setIfInBounds_toArray, List.set_cons_zero, List.set_cons_succ]
        refine take_op (i := 6) (d := 243) (OP := Op.move (Operand.tmp 1)) (T := 27) (v := ?vzz37) rfl rfl rfl rfl (by kernel_rfl) (by kernel_rfl) (by kernel_rfl) (fun _ _ _ h => h) (by rfl) ?hzz37 hHeld ?rzz37
        case hzz37 => (intro w' hSw; (try dsimp only at hSw); go_simp <;> with_reducible rfl)
        try simp only [Act.put, List.setIfInBounds_toArray, List.set_cons_zero, List.set_cons_succ]
        refine take_op (i := 7) (d := 244) (OP := Op.move (Operand.tmp 29)) (T := 3) (v := ?vzz38) rfl rfl rfl rfl (by kernel_rfl) (by kernel_rfl) (by kernel_rfl) (fun _ _ _ h => h) (by rfl) ?hzz38 hHeld ?rzz38
        case hzz38 => (intro w' hSw; (try dsimp only at hSw); go_simp <;> with_reducible rfl)
        try simp only [Act.put, List.setIfInBounds_toArray, List.set_cons_zero, List.set_cons_succ]
        refine take_op (i := 8) (d := 245) (OP := Op.slice 27 (Operand.tmp 243) (some (Operand.tmp 244)) none none) (T := 27) (v := ?vzz39) rfl rfl rfl rfl (by kernel_rfl) (by kernel_rfl) (by kernel_rfl) (fun _ _ _ h => h) (by rfl) ?hzz39 hHeld ?rzz39
        case hzz39 => (intro w' hSw; (try dsimp only at hSw); go_simp <;> with_reducible rfl)
        try simp only [Act.put, List.setIfInBounds_toArray, List.set_cons_zero, List.set_cons_succ]
        refine take_op (i := 9) (d := 246) (OP := Op.move (Operand.tmp 2)) (T := 3) (v := ?vzz40) rfl rfl rfl rfl (by kernel_rfl) (by kernel_rfl) (by kernel_rfl) (fun _ _ _ h => h) (by rfl) ?hzz40 hHeld ?rzz40
        case hzz40 => (intro w' hSw; (try dsimp only at hSw); go_simp <;> with_reducible rfl)
        try simp only [Act.put, List.setIfInBounds_toArray, List.set_cons_zero, List.set_cons_succ]
        refine take_op (i := 10) (d := 247) (OP := Op.move (Operand.tmp 3)) (T := 9) (v := ?vzz41) rfl rfl rfl rfl (by kernel_rfl) (by kernel_rfl) (by kernel_rfl) (fun _ _ _ h => h) (by rfl) ?hzz41 hHeld ?rzz41
        case hzz41 => (intro w' hSw; (try dsimp only at hSw); go_simp <;> with_reducible rfl)
        try simp only [Act.put, List.setIfInBounds_toArray, List.set_cons_zero, List.set_cons_succ]
        refine call_op (i := 11) (d := 248) (OP := Op.call { callee := Callee.value (Operand.func 39), args := #[Operand.tmp 242, Operand.tmp 245, Operand.tmp 246, Operand.const (Value.bool false), Operand.tmp 247], argTypes := #[26, 27, 3, 4, 9] }) (T := 4) (f := 39) (args := #[.agg #[.pointer a], .slice A (0 - pos k t.list) (cap - pos k t.list), .int .i64 leave, .bool false, .string k]) rfl rfl rfl rfl (by kernel_rfl) (by rfl) (by go_simp) ?_
        refine (gB _ qw12.2.out).mono ?_
        rintro e w13 ⟨rfl, bw13⟩
        have qw13 : w13.cell? ⟨w.heap.size, 0, none⟩ = some (.pointer a) ∧ Hid (Below wb.heap.size wb w13) := ⟨cell_stays qw12.1 bw13, hide (qw12.2.out.trans (bw13.mono qw12.2.out.size))⟩
        refine ⟨_, rfl, qw13, ?_⟩
        replace hHeld := qw13
        try simp only [Act.put, List.setIfInBounds_toArray, List.set_cons_zero, List.set_cons_succ]
        refine take_op (i := 12) (d := 249) (OP := Op.pick (Operand.tmp 241) (Operand.tmp 248) (Operand.const (Value.bool false))) (T := 4) (v := ?vzz42) rfl rfl rfl rfl (by kernel_rfl) (by kernel_rfl) (by kernel_rfl) (fun _ _ _ h => h) (by rfl) ?hzz42 hHeld ?rzz42
        case hzz42 => (intro w' hSw; (try dsimp only at hSw); go_simp <;> with_reducible rfl)
        try simp only [Act.put, List.setIfInBounds_toArray, List.set_cons_zero, List.set_cons_succ]
        refine take_op (i := 13) (d := 250) (OP := Op.move (Operand.tmp 249)) (T := 4) (v := ?vzz43) rfl rfl rfl rfl (by kernel_rfl) (by kernel_rfl) (by kernel_rfl) (fun _ _ _ h => h) (by rfl) ?hzz43 hHeld ?rzz43
        case hzz43 => (intro w' hSw; (try dsimp only at hSw); go_simp <;> with_reducible rfl)
        try simp only [Act.put, List.setIfInBounds_toArray, List.set_cons_zero, List.set_cons_succ]
        refine take_op (i := 14) (d := 251) (OP := Op.load 26 (Operand.tmp 4)) (T := 26) (v := ?vzz44) rfl rfl rfl rfl (by kernel_rfl) (by kernel_rfl) (by kernel_rfl) (fun _ _ _ h => h) (by rfl) ?hzz44 hHeld ?rzz44
        case hzz44 => (intro w' hSw; (try dsimp only at hSw); go_simp <;> with_reducible rfl)
        try simp only [Act.put, List.setIfInBounds_toArray, List.set_cons_zero, List.set_cons_succ]
        refine take_op (i := 16) (d := 253) (OP := Op.move (Operand.tmp 1)) (T := 27) (v := ?vzz45) rfl rfl rfl rfl (by kernel_rfl) (by kernel_rfl) (by kernel_rfl) (fun _ _ _ h => h) (by rfl) ?hzz45 hHeld ?rzz45
        case hzz45 => (intro w' hSw; (try dsimp only at hSw); go_simp <;> with_reducible rfl)
        try simp only [Act.put, List.setIfInBounds_toArray, List.set_cons_zero, List.set_cons_succ]
        refine take_op (i := 17) (d := 254) (OP := Op.call { callee := Callee.builtin Builtin.len, args := #[Operand.tmp 253], argTypes := #[27] }) (T := 3) (v := ?vzz46) rfl rfl rfl rfl (by kernel_rfl) (by kernel_rfl) (by kernel_rfl) (fun _ _ _ h => h) (by rfl) ?hzz46 hHeld ?rzz46
        case hzz46 => (intro w' hSw; (try dsimp only at hSw); go_simp <;> with_reducible rfl)
        try simp only [Act.put, List.setIfInBounds_toArray, List.set_cons_zero, List.set_cons_succ]
        refine call_op (i := 15) (d := 252) (OP := Op.call { callee := Callee.value (Operand.func 40), args := #[Operand.tmp 251], argTypes := #[26] }) (T := 3) (f := 40) (args := #[.agg #[.pointer a]]) rfl rfl rfl rfl (by kernel_rfl) (by rfl) (by go_simp) ?_
        refine (bN _ qw13.2.out).mono ?_
        rintro e w14 ⟨rfl, bw14⟩
        have qw14 : w14.cell? ⟨w.heap.size, 0, none⟩ = some (.pointer a) ∧ Hid (Below wb.heap.size wb w14) := ⟨cell_stays qw13.1 bw14, hide (qw13.2.out.trans (bw14.mono qw13.2.out.size))⟩
        refine ⟨_, rfl, qw14, ?_⟩
        replace hHeld := qw14
        try simp only [Act.put, List.setIfInBounds_toArray, List.set_cons_zero, List.set_cons_succ]
        refine take_op (i := 18) (d := 255) (OP := Op.binOp BinOp.eql 3 (Operand.tmp 252) (Operand.tmp 254) 3) (T := 4) (v := ?vzz47) rfl rfl rfl rfl (by kernel_rfl) (by kernel_rfl) (by kernel_rfl) (fun _ _ _ h => h) (by rfl) ?hzz47 hHeld ?rzz47
        case hzz47 => (intro w' hSw; (try dsimp only at hSw); go_simp <;> with_reducible rfl)
        try simp only [Act.put, List.setIfInBounds_toArray, List.set_cons_zero, List.set_cons_succ]
        refine take_op (i := 19) (d := 256) (OP := Op.pick (Operand.tmp 250) (Operand.tmp 255) (Operand.const (Value.bool false))) (T := 4) (v := ?vzz48) rfl rfl rfl rfl (by kernel_rfl) (by kernel_rfl) (by kernel_rfl) (fun _ _ _ h => h) (by rfl) ?hzz48 hHeld ?rzz48
        case hzz48 => (intro w' hSw; (try dsimp only at hSw); go_simp <;> with_reducible rfl)
        try simp only [Act.put, List.setIfInBounds_toArray, List.set_cons_zero, List.set_cons_succ]
        refine take_op (i := 20) (d := 8) (OP := Op.assign (Operand.tmp 256)) (T := 4) (v := ?vzz49) rfl rfl rfl rfl (by kernel_rfl) (by kernel_rfl) (by kernel_rfl) (fun _ _ _ h => h) (by rfl) ?hzz49 hHeld ?rzz49
        case hzz49 => (intro w' hSw; (try dsimp only at hSw); go_simp <;> with_reducible rfl)
        try simp only [Act.put, List.setIfInBounds_toArray, List.set_cons_zero, List.set_cons_succ]
        refine wpAnyH_done (by kernel_rfl) ?_ _
        go_wp2
        go_ret
        exact ⟨rfl, HB0.out.trans (qw14.2.out.mono HB0.out.size)⟩
      · obtain ⟨M, rfl⟩ : ∃ M, i = M + 1 := ⟨i - 1, by omega⟩
        have htn : t ≠ .nil := by
          intro e
          have := HE.out.1
          rw [e] at this
          simp [T.list] at this
        obtain ⟨_, fk, fv, _, frest, f1, f2, _⟩ := T.first_spec htn
        obtain ⟨_, lk, lv, _, lrest, l1, l2, _⟩ := T.last_spec htn
        rw [f1] at bF
        rw [l1] at bZ
        have e3 : ∀ {p k v l r}, (T.node p k v l r).key = k := rfl
        have e4 : ∀ {p k v l r}, (T.node p k v l r).val = v := rfl
        have e5 : ∀ {p k v l r}, (T.node p k v l r).isSome = true := rfl
        rw [e3, e4, e5] at bF bZ
        clear e3 e4 e5
        have x0 : t.list[0]? = some (fk, fv) := by rw [f2]; rfl
        have x1 : t.list[M]? = some (lk, lv) := by
          have := HE.out.1
          rw [l2] at this ⊢
          simp only [List.length_append, List.length_singleton] at this
          rw [List.getElem?_append_right (by omega), show M - lrest.length = 0 by omega]
          rfl
        obtain ⟨b, off, hao, c0, c1⟩ := HE.out.2.1.at HE.out.2.2.2.2.1 x0
        obtain ⟨b', off', hao', c2, c3⟩ := HE.out.2.1.at HE.out.2.2.2.2.1 x1
        subst hao
        simp only [Option.some.injEq, Addr.mk.injEq] at hao'
        obtain ⟨rfl, rfl, _⟩ := hao'
        rw [Nat.zero_mul, Nat.add_zero] at c0 c1
        have HC := hide (And.intro c0 (And.intro c1 (And.intro c2 c3)))
        have z3 : (0 : Int) < ((M + 1 : Nat) : Int) := by omega
        clear f1 f2 l1 l2 x0 x1 c0 c1 c2 c3 hz htn
        go_upto_region 13 with (first
          | (go_at_call 37; refine (bF _ q0.2.out).mono ?_; rintro e w7 ⟨rfl, b7⟩; have q7 : w7.cell? ⟨w.heap.size, 0, none⟩ = some (.pointer a) ∧ Hid (Below wb.heap.size wb w7) := ⟨cell_stays q0.1 b7, hide (q0.2.out.trans (b7.mono q0.2.out.size))⟩; dsimp only)
          | (go_at_call 38; refine (bZ _ q7.2.out).mono ?_; rintro e w8 ⟨rfl, b8⟩; have q8 : w8.cell? ⟨w.heap.size, 0, none⟩ = some (.pointer a) ∧ Hid (Below wb.heap.size wb w8) := ⟨cell_stays q7.1 b8, hide (q7.2.out.trans (b8.mono q7.2.out.size))⟩; have k8 : w8.cell? ⟨b, off, none⟩ = some (.string fk) ∧ w8.cell? ⟨b, off + 1, none⟩ = some (.int .i64 fv) ∧ w8.cell? ⟨b, off + M * 2, none⟩ = some (.string lk) ∧ w8.cell? ⟨b, off + M * 2 + 1, none⟩ = some (.int .i64 lv) := ⟨cell_stays HC.out.1 q8.2.out, cell_stays HC.out.2.1 q8.2.out, cell_stays HC.out.2.2.1 q8.2.out, cell_stays HC.out.2.2.2 q8.2.out⟩; dsimp only))
        dsimp only [List.append]
        have tk : True := trivial
        go_upto_region 20 with (first
          | (go_at_call 32; clear tk; refine (gL _ q8.2.out).mono ?_; rintro e w9 ⟨rfl, b9⟩; have q9 : w9.cell? ⟨w.heap.size, 0, none⟩ = some (.pointer a) ∧ Hid (Below wb.heap.size wb w9) := ⟨cell_stays q8.1 b9, hide (q8.2.out.trans (b9.mono q8.2.out.size))⟩; dsimp only)
          | (go_at_call 32; refine (gN _ q9.2.out).mono ?_; rintro e w10 ⟨rfl, b10⟩; have q10 : w10.cell? ⟨w.heap.size, 0, none⟩ = some (.pointer a) ∧ Hid (Below wb.heap.size wb w10) := ⟨cell_stays q9.1 b10, hide (q9.2.out.trans (b10.mono q9.2.out.size))⟩; dsimp only)
          | (go_at_call 8; refine (bA _ q10.2.out).mono ?_; rintro e w11 ⟨rfl, n11, h11⟩; have b11 : Below w10.heap.size w10 w11 := by rw [h11]; exact below_drew _ _
             have q11 : w11.cell? ⟨w.heap.size, 0, none⟩ = some (.pointer a) ∧ Hid (Below wb.heap.size wb w11) := ⟨cell_stays q10.1 b11, hide (q10.2.out.trans (b11.mono q10.2.out.size))⟩; clear h11; dsimp only))
        clear q0 q7 q8 q9 q10 gL gN bA bF bZ
        have qd : w11.drew.cell? ⟨w.heap.size, 0, none⟩ = some (.pointer a) ∧ Hid (Below wb.heap.size wb w11.drew) := ⟨q11.1, hide (q11.2.out.trans ((drew_below w11).mono q11.2.out.size))⟩
        refine wp_region_held_drew (S := (fun w' => w'.cell? ⟨w.heap.size, 0, none⟩ = some (.pointer a) ∧ Hid (Below wb.heap.size wb w'))) (by kernel_rfl) qd (fun hHeld => ?_)
        try dsimp only at hHeld
        refine take_op (i := 0) (d := 237) (OP := Op.load 26 (Operand.tmp 4)) (T := 26) (v := ?vzz50) rfl rfl rfl rfl (by kernel_rfl) (by kernel_rfl) (by kernel_rfl) (fun _ _ _ h => h) (by rfl) ?hzz50 hHeld ?rzz50
        case hzz50 => (intro w' hSw; (try dsimp only at hSw); go_simp <;> with_reducible rfl)
        try simp only [Act.put, List.setIfInBounds_toArray, List.set_cons_zero, List.set_cons_succ]
        refine take_op (i := 1) (d := 238) (OP := Op.move (Operand.tmp 1)) (T := 27) (v := ?vzz51) rfl rfl rfl rfl (by kernel_rfl) (by kernel_rfl) (by kernel_rfl) (fun _ _ _ h => h) (by rfl) ?hzz51 hHeld ?rzz51
        case hzz51 => (intro w' hSw; (try dsimp only at hSw); go_simp <;> with_reducible rfl)
        try simp only [Act.put, List.setIfInBounds_toArray, List.set_cons_zero, List.set_cons_succ]
        refine take_op (i := 2) (d := 239) (OP := Op.move (Operand.tmp 2)) (T := 3) (v := ?vzz52) rfl rfl rfl rfl (by kernel_rfl) (by kernel_rfl) (by kernel_rfl) (fun _ _ _ h => h) (by rfl) ?hzz52 hHeld ?rzz52
        case hzz52 => (intro w' hSw; (try dsimp only at hSw); go_simp <;> with_reducible rfl)
        try simp only [Act.put, List.setIfInBounds_toArray, List.set_cons_zero, List.set_cons_succ]
        refine call_op (i := 3) (d := 240) (OP := Op.call { callee := Callee.value (Operand.func 39), args := #[Operand.tmp 237, Operand.tmp 238, Operand.tmp 239, Operand.const (Value.bool true), Operand.const (Value.string { data := #[] })], argTypes := #[26, 27, 3, 4, 9] }) (T := 4) (f := 39) (args := #[.agg #[.pointer a], .slice (some ⟨b, off, none⟩) (M + 1) cap, .int .i64 leave, .bool true, .string ⟨#[]⟩]) rfl rfl rfl rfl (by kernel_rfl) (by rfl) (by go_simp) ?_
        refine (gA _ qd.2.out).mono ?_
        rintro e w12 ⟨rfl, bw12⟩
        have qw12 : w12.cell? ⟨w.heap.size, 0, none⟩ = some (.pointer a) ∧ Hid (Below wb.heap.size wb w12) := ⟨cell_stays qd.1 bw12, hide (qd.2.out.trans (bw12.mono qd.2.out.size))⟩
        refine ⟨_, rfl, qw12, ?_⟩
        replace hHeld := qw12
        try simp only [Act.put, List.setIfInBounds_toArray, List.set_cons_zero, List.set_cons_succ]
        refine take_op (i := 4) (d := 241) (OP := Op.move (Operand.tmp 240)) (T := 4) (v := ?vzz53) rfl rfl rfl rfl (by kernel_rfl) (by kernel_rfl) (by kernel_rfl) (fun _ _ _ h => h) (by rfl) ?hzz53 hHeld ?rzz53
        case hzz53 => (intro w' hSw; (try dsimp only at hSw); go_simp <;> with_reducible rfl)
        try simp only [Act.put, List.setIfInBounds_toArray, List.set_cons_zero, List.set_cons_succ]
        refine take_op (i := 5) (d := 242) (OP := Op.load 26 (Operand.tmp 4)) (T := 26) (v := ?vzz54) rfl rfl rfl rfl (by kernel_rfl) (by kernel_rfl) (by kernel_rfl) (fun _ _ _ h => h) (by rfl) ?hzz54 hHeld ?rzz54
        case hzz54 => (intro w' hSw; (try dsimp only at hSw); go_simp <;> with_reducible rfl)
        try simp only [Act.put, List.setIfInBounds_toArray, List.set_cons_zero, List.set_cons_succ]
        refine take_op (i := 6) (d := 243) (OP := Op.move (Operand.tmp 1)) (T := 27) (v := ?vzz55) rfl rfl rfl rfl (by kernel_rfl) (by kernel_rfl) (by kernel_rfl) (fun _ _ _ h => h) (by rfl) ?hzz55 hHeld ?rzz55
        case hzz55 => (intro w' hSw; (try dsimp only at hSw); go_simp <;> with_reducible rfl)
        try simp only [Act.put, List.setIfInBounds_toArray, List.set_cons_zero, List.set_cons_succ]
        refine take_op (i := 7) (d := 244) (OP := Op.move (Operand.tmp 29)) (T := 3) (v := ?vzz56) rfl rfl rfl rfl (by kernel_rfl) (by kernel_rfl) (by kernel_rfl) (fun _ _ _ h => h) (by rfl) ?hzz56 hHeld ?rzz56
        case hzz56 => (intro w' hSw; (try dsimp only at hSw); go_simp <;> with_reducible rfl)
        try simp only [Act.put, List.setIfInBounds_toArray, List.set_cons_zero, List.set_cons_succ]
        refine take_op (i := 8) (d := 245) (OP := Op.slice 27 (Operand.tmp 243) (some (Operand.tmp 244)) none none) (T := 27) (v := ?vzz57) rfl rfl rfl rfl (by kernel_rfl) (by kernel_rfl) (by kernel_rfl) (fun _ _ _ h => h) (by rfl) ?hzz57 hHeld ?rzz57
        case hzz57 => (intro w' hSw; (try dsimp only at hSw); go_simp <;> with_reducible rfl)
        try simp only [Act.put, List.setIfInBounds_toArray, List.set_cons_zero, List.set_cons_succ]
        refine take_op (i := 9) (d := 246) (OP := Op.move (Operand.tmp 2)) (T := 3) (v := ?vzz58) rfl rfl rfl rfl (by kernel_rfl) (by kernel_rfl) (by kernel_rfl) (fun _ _ _ h => h) (by rfl) ?hzz58 hHeld ?rzz58
        case hzz58 => (intro w' hSw; (try dsimp only at hSw); go_simp <;> with_reducible rfl)
        try simp only [Act.put, List.setIfInBounds_toArray, List.set_cons_zero, List.set_cons_succ]
        refine take_op (i := 10) (d := 247) (OP := Op.move (Operand.tmp 3)) (T := 9) (v := ?vzz59) rfl rfl rfl rfl (by kernel_rfl) (by kernel_rfl) (by kernel_rfl) (fun _ _ _ h => h) (by rfl) ?hzz59 hHeld ?rzz59
        case hzz59 => (intro w' hSw; (try dsimp only at hSw); go_simp <;> with_reducible rfl)
        try simp only [Act.put, List.setIfInBounds_toArray, List.set_cons_zero, List.set_cons_succ]
        refine call_op (i := 11) (d := 248) (OP := Op.call { callee := Callee.value (Operand.func 39), args := #[Operand.tmp 242, Operand.tmp 245, Operand.tmp 246, Operand.const (Value.bool false), Operand.tmp 247], argTypes := #[26, 27, 3, 4, 9] }) (T := 4) (f := 39) (args := #[.agg #[.pointer a], .slice A (M + 1 - pos k t.list) (cap - pos k t.list), .int .i64 leave, .bool false, .string k]) rfl rfl rfl rfl (by kernel_rfl) (by rfl) (by go_simp) ?_
        refine (gB _ qw12.2.out).mono ?_
        rintro e w13 ⟨rfl, bw13⟩
        have qw13 : w13.cell? ⟨w.heap.size, 0, none⟩ = some (.pointer a) ∧ Hid (Below wb.heap.size wb w13) := ⟨cell_stays qw12.1 bw13, hide (qw12.2.out.trans (bw13.mono qw12.2.out.size))⟩
        refine ⟨_, rfl, qw13, ?_⟩
        replace hHeld := qw13
        try simp only [Act.put, List.setIfInBounds_toArray, List.set_cons_zero, List.set_cons_succ]
        refine take_op (i := 12) (d := 249) (OP := Op.pick (Operand.tmp 241) (Operand.tmp 248) (Operand.const (Value.bool false))) (T := 4) (v := ?vzz60) rfl rfl rfl rfl (by kernel_rfl) (by kernel_rfl) (by kernel_rfl) (fun _ _ _ h => h) (by rfl) ?hzz60 hHeld ?rzz60
        case hzz60 => (intro w' hSw; (try dsimp only at hSw); go_simp <;> with_reducible rfl)
        try simp only [Act.put, List.setIfInBounds_toArray, List.set_cons_zero, List.set_cons_succ]
        refine take_op (i := 13) (d := 250) (OP := Op.move (Operand.tmp 249)) (T := 4) (v := ?vzz61) rfl rfl rfl rfl (by kernel_rfl) (by kernel_rfl) (by kernel_rfl) (fun _ _ _ h => h) (by rfl) ?hzz61 hHeld ?rzz61
        case hzz61 => (intro w' hSw; (try dsimp only at hSw); go_simp <;> with_reducible rfl)
        try simp only [Act.put, List.setIfInBounds_toArray, List.set_cons_zero, List.set_cons_succ]
        refine take_op (i := 14) (d := 251) (OP := Op.load 26 (Operand.tmp 4)) (T := 26) (v := ?vzz62) rfl rfl rfl rfl (by kernel_rfl) (by kernel_rfl) (by kernel_rfl) (fun _ _ _ h => h) (by rfl) ?hzz62 hHeld ?rzz62
        case hzz62 => (intro w' hSw; (try dsimp only at hSw); go_simp <;> with_reducible rfl)
        try simp only [Act.put, List.setIfInBounds_toArray, List.set_cons_zero, List.set_cons_succ]
        refine take_op (i := 16) (d := 253) (OP := Op.move (Operand.tmp 1)) (T := 27) (v := ?vzz63) rfl rfl rfl rfl (by kernel_rfl) (by kernel_rfl) (by kernel_rfl) (fun _ _ _ h => h) (by rfl) ?hzz63 hHeld ?rzz63
        case hzz63 => (intro w' hSw; (try dsimp only at hSw); go_simp <;> with_reducible rfl)
        try simp only [Act.put, List.setIfInBounds_toArray, List.set_cons_zero, List.set_cons_succ]
        refine take_op (i := 17) (d := 254) (OP := Op.call { callee := Callee.builtin Builtin.len, args := #[Operand.tmp 253], argTypes := #[27] }) (T := 3) (v := ?vzz64) rfl rfl rfl rfl (by kernel_rfl) (by kernel_rfl) (by kernel_rfl) (fun _ _ _ h => h) (by rfl) ?hzz64 hHeld ?rzz64
        case hzz64 => (intro w' hSw; (try dsimp only at hSw); go_simp <;> with_reducible rfl)
        try simp only [Act.put, List.setIfInBounds_toArray, List.set_cons_zero, List.set_cons_succ]
        refine call_op (i := 15) (d := 252) (OP := Op.call { callee := Callee.value (Operand.func 40), args := #[Operand.tmp 251], argTypes := #[26] }) (T := 3) (f := 40) (args := #[.agg #[.pointer a]]) rfl rfl rfl rfl (by kernel_rfl) (by rfl) (by go_simp) ?_
        refine (bN _ qw13.2.out).mono ?_
        rintro e w14 ⟨rfl, bw14⟩
        have qw14 : w14.cell? ⟨w.heap.size, 0, none⟩ = some (.pointer a) ∧ Hid (Below wb.heap.size wb w14) := ⟨cell_stays qw13.1 bw14, hide (qw13.2.out.trans (bw14.mono qw13.2.out.size))⟩
        refine ⟨_, rfl, qw14, ?_⟩
        replace hHeld := qw14
        try simp only [Act.put, List.setIfInBounds_toArray, List.set_cons_zero, List.set_cons_succ]
        refine take_op (i := 18) (d := 255) (OP := Op.binOp BinOp.eql 3 (Operand.tmp 252) (Operand.tmp 254) 3) (T := 4) (v := ?vzz65) rfl rfl rfl rfl (by kernel_rfl) (by kernel_rfl) (by kernel_rfl) (fun _ _ _ h => h) (by rfl) ?hzz65 hHeld ?rzz65
        case hzz65 => (intro w' hSw; (try dsimp only at hSw); go_simp <;> with_reducible rfl)
        try simp only [Act.put, List.setIfInBounds_toArray, List.set_cons_zero, List.set_cons_succ]
        refine take_op (i := 19) (d := 256) (OP := Op.pick (Operand.tmp 250) (Operand.tmp 255) (Operand.const (Value.bool false))) (T := 4) (v := ?vzz66) rfl rfl rfl rfl (by kernel_rfl) (by kernel_rfl) (by kernel_rfl) (fun _ _ _ h => h) (by rfl) ?hzz66 hHeld ?rzz66
        case hzz66 => (intro w' hSw; (try dsimp only at hSw); go_simp <;> with_reducible rfl)
        try simp only [Act.put, List.setIfInBounds_toArray, List.set_cons_zero, List.set_cons_succ]
        refine take_op (i := 20) (d := 8) (OP := Op.assign (Operand.tmp 256)) (T := 4) (v := ?vzz67) rfl rfl rfl rfl (by kernel_rfl) (by kernel_rfl) (by kernel_rfl) (fun _ _ _ h => h) (by rfl) ?hzz67 hHeld ?rzz67
        case hzz67 => (intro w' hSw; (try dsimp only at hSw); go_simp <;> with_reducible rfl)
        try simp only [Act.put, List.setIfInBounds_toArray, List.set_cons_zero, List.set_cons_succ]
        refine wpAnyH_done (by kernel_rfl) ?_ _
        go_wp2
        go_ret
        exact ⟨rfl, HB0.out.trans (qw14.2.out.mono HB0.out.size)⟩
end Go.Proofs.Ytleaaoknjflgoaa
