/-
  walk: HOW MANY NODES ARE NEW: made 36 and its closure 55.
  walk: made 36.
-/
import Derived.Test.YtckkoigghkgfdaaStands
import Derived.Test.YtckkoigghkgfdaaRun
namespace Go.Proofs.Ytckkoigghkgfdaa
open Go.RowKit Go.Shelf
set_option linter.unusedSimpArgs false

/-- How many nodes of a map are none of those maps', as the program counts them. -/
def madeIn (os : List T) : T → Nat
  | .nil => 0
  | .node p k v l r => if os.any (fun o => decide (o.find k = .node p k v l r)) then 0 else madeIn os l + 1 + madeIn os r
theorem madeIn_le (os : List T) : ∀ t : T, madeIn os t ≤ t.n
  | .nil => Nat.le_refl _
  | .node p k v l r => by
    have h1 := madeIn_le os l
    have h2 := madeIn_le os r
    rw [madeIn]
    simp only [T.n]
    split <;> omega
/-- What the closure has. -/
structure MEnv (W : World) (Of Cn : Nat) (os : List T) : Prop where
  f : W.cell? ⟨Cn, 0, none⟩ = some (.func (.func 55) #[] #[.pointer (some ⟨Of, 0, none⟩), .pointer (some ⟨Cn, 0, none⟩)])
  ex : ∃ sb so cap, W.cell? ⟨Of, 0, none⟩ = some (.slice (some ⟨sb, so, none⟩) os.length cap) ∧ ∀ (i : Nat) (o : T), os[i]? = some o → W.cell? ⟨sb, so + i, none⟩ = some o.ptr
  ins : ∀ o ∈ os, In W o
theorem MEnv.below {W W' : World} {Of Cn : Nat} {os : List T} (h : MEnv W Of Cn os) (hb : Below W.heap.size W W') : MEnv W' Of Cn os := by
  obtain ⟨sb, so, cap, h1, h2⟩ := h.ex
  exact ⟨cell_stays h.f hb, ⟨sb, so, cap, cell_stays h1 hb, fun i o ho => cell_stays (h2 i o ho) hb⟩, fun o ho => In.below hb (h.ins o ho)⟩
set_option maxHeartbeats 8000000 in
set_option maxRecDepth 100000 in
theorem made55_any (Of Cn : Nat) (os : List T) (hos : os.length ≤ 1000) : ∀ (t : T) (w : World), In w t → t.n ≤ 100000 → MEnv w Of Cn os → Calls Try.prog 55 #[t.ptr, .pointer (some ⟨Of, 0, none⟩), .pointer (some ⟨Cn, 0, none⟩)] w fun e w' => e = .returned (.int .i64 (madeIn os t : Nat)) ∧ Below w.heap.size w w'
  | .nil, w, _, _, _ => by
    simp only [T.ptr, madeIn]
    go_enter Try.func55, Try.ntmps55
    go_wp2
    go_ret
    exact ⟨rfl, Below.refl _ _⟩
  | .node p k v l r, w, it, hn, he => by
    have hnl : l.n + r.n + 1 = (T.node p k v l r).n := by simp [T.n]
    obtain ⟨pl, hpl⟩ := l.ptr_shape
    obtain ⟨pr, hpr⟩ := r.ptr_shape
    have ls : ∀ W, Below w.heap.size w W → Calls Try.prog 57 #[.pointer (some ⟨p, 0, none⟩)] W fun e w' => e = .returned (.pointer pl) ∧ Below W.heap.size W w' := fun W hW => by
      have := left_any (.node p k v l r) W (In.below hW it)
      rw [show (T.node p k v l r).left.ptr = .pointer pl from hpl] at this
      exact this.mono fun e w' ⟨h1, h2⟩ => ⟨h1, by rw [h2]; exact Below.refl _ _⟩
    have rs : ∀ W, Below w.heap.size w W → Calls Try.prog 58 #[.pointer (some ⟨p, 0, none⟩)] W fun e w' => e = .returned (.pointer pr) ∧ Below W.heap.size W w' := fun W hW => by
      have := right_any (.node p k v l r) W (In.below hW it)
      rw [show (T.node p k v l r).right.ptr = .pointer pr from hpr] at this
      exact this.mono fun e w' ⟨h1, h2⟩ => ⟨h1, by rw [h2]; exact Below.refl _ _⟩
    have HL : Hid (∀ W, Below w.heap.size w W → Calls Try.prog 55 #[.pointer pl, .pointer (some ⟨Of, 0, none⟩), .pointer (some ⟨Cn, 0, none⟩)] W fun e w' => e = .returned (.int .i64 (madeIn os l : Nat)) ∧ Below W.heap.size W w') := hide (fun W hW => by
      have := made55_any Of Cn os hos l W (In.below hW it.2.1) (by omega) (he.below hW)
      rw [hpl] at this
      exact this)
    have HR : Hid (∀ W, Below w.heap.size w W → Calls Try.prog 55 #[.pointer pr, .pointer (some ⟨Of, 0, none⟩), .pointer (some ⟨Cn, 0, none⟩)] W fun e w' => e = .returned (.int .i64 (madeIn os r : Nat)) ∧ Below W.heap.size W w') := hide (fun W hW => by
      have := made55_any Of Cn os hos r W (In.below hW it.2.2) (by omega) (he.below hW)
      rw [hpr] at this
      exact this)
    have st : ∀ (o : T) (po : Option Addr) (W : World), Below w.heap.size w W → o ∈ os → o.ptr = .pointer po → Calls Try.prog 56 #[.pointer (some ⟨p, 0, none⟩), .agg #[.pointer po]] W fun e w' => e = .returned (.bool (decide (o.find k = .node p k v l r))) ∧ Below W.heap.size W w' := fun o po W hW ho hpo => by
      have := stands_any (.node p k v l r) o W (In.below hW it) (In.below hW (he.ins o ho))
      rw [mv_ptr hpo] at this
      exact this
    obtain ⟨sb, so, cap, cs, ce⟩ := he.ex
    have cf := he.f
    have hml := madeIn_le os l
    have hmr := madeIn_le os r
    have HV := hide (show madeIn os (.node p k v l r) = if os.any (fun o => decide (o.find k = .node p k v l r)) then 0 else madeIn os l + 1 + madeIn os r from rfl)
    obtain ⟨L, hLe⟩ : ∃ L, L = os.length := ⟨_, rfl⟩
    rw [← hLe] at cs hos
    have HLE := hide hLe
    have HCE := hide ce
    have HST := hide st
    simp only [T.ptr]
    clear it he ce st hLe hpl hpr
    generalize madeIn os l = ML at *
    generalize madeIn os r = MR at *
    go_enter Try.func55, Try.ntmps55
    go_wp2
    go_loopw [11] (fun v11 wr => ∃ i : Nat, i ≤ L ∧ v11 = .int .i64 i ∧ Hid ((os.take i).any (fun o => decide (o.find k = .node p k v l r)) = false ∧ Below w.heap.size w wr)) (fun v11 _ => L - (intOf v11).toNat)
    case atStart => exact ⟨0, by omega, rfl, hide ⟨rfl, Below.refl _ _⟩⟩
    case round =>
      obtain ⟨i, hi, rfl, HH⟩ := hrel
      by_cases hiL : i < L
      · have y1 : (i : Int) < (L : Int) := by omega
        have hlt : i < os.length := by rw [← HLE.out]; exact hiL
        obtain ⟨oo, hoo⟩ : ∃ oo, os[i]? = some oo := ⟨os[i], List.getElem?_eq_getElem hlt⟩
        obtain ⟨po, hpo⟩ := oo.ptr_shape
        have ce := cell_stays (HCE.out i oo hoo) HH.out.2
        rw [hpo] at ce
        have bal : Below wr.heap.size wr (wr.alloc (.cells #[.pointer po] 29)) := (Below.refl _ wr).alloc (Nat.le_refl _) _
        have bw := HH.out.2.trans (bal.mono HH.out.2.size)
        have cst := HST.out oo po _ bw (List.mem_of_getElem? hoo) hpo
        have htk : os.take (i + 1) = os.take i ++ [oo] := by rw [List.take_add_one, hoo]; rfl
        have HX := hide (And.intro bw htk)
        cases hD : decide (oo.find k = .node p k v l r) with
        | true =>
          rw [hD] at cst
          have HD := hide (And.intro hD hoo)
          clear hD htk bw hoo hpo bal
          go_wp2_with (go_at_call 56; refine cst.mono ?_; rintro e w1 ⟨rfl, b1⟩; dsimp only)
          go_ret
          refine ⟨?_, HX.out.1.trans (b1.mono HX.out.1.size)⟩
          have : os.any (fun o => decide (o.find k = .node p k v l r)) = true := List.any_eq_true.2 ⟨oo, List.mem_of_getElem? HD.out.2, HD.out.1⟩
          rw [HV.out, this]
          rfl
        | false =>
          rw [hD] at cst
          have HD := hide (And.intro hD hoo)
          clear hD htk bw hoo hpo bal
          go_wp2_with (go_at_call 56; refine cst.mono ?_; rintro e w1 ⟨rfl, b1⟩; replace b1 := hide b1; dsimp only)
          go_roundw
          case rel => exact ⟨i + 1, by omega, by go_num, hide ⟨by rw [HX.out.2, List.any_append, HH.out.1]; simpa using HD.out.1, HX.out.1.trans (b1.out.mono HX.out.1.size)⟩⟩
          case measure => simp [intOf]; omega
      · have ei : i = L := by omega
        subst ei
        have y1 : decide ((i : Int) < (i : Int)) = false := by simp
        have wA : IntKind.i64.wrap ((ML : Int) + 1) = (ML : Int) + 1 := by rw [IntKind.wrap_i64]; omega
        have wB : IntKind.i64.wrap ((ML : Int) + 1 + (MR : Int)) = (ML : Int) + 1 + (MR : Int) := by rw [IntKind.wrap_i64]; omega
        have q0 : wr.cell? ⟨Cn, 0, none⟩ = some (.func (.func 55) #[] #[.pointer (some ⟨Of, 0, none⟩), .pointer (some ⟨Cn, 0, none⟩)]) ∧ Hid (Below w.heap.size w wr) := ⟨cell_stays cf HH.out.2, hide HH.out.2⟩
        have hany : os.any (fun o => decide (o.find k = .node p k v l r)) = false := by have := HH.out.1; rw [HLE.out, List.take_length] at this; exact this
        have HA := hide hany
        clear hany
        go_upto_region 9 with (fail)
        have qd : wr.drew.cell? ⟨Cn, 0, none⟩ = some (.func (.func 55) #[] #[.pointer (some ⟨Of, 0, none⟩), .pointer (some ⟨Cn, 0, none⟩)]) ∧ Hid (Below w.heap.size w wr.drew) := ⟨q0.1, hide (q0.2.out.trans ((drew_below wr).mono q0.2.out.size))⟩
        refine wp_region_held_drew (S := (fun w' => w'.cell? ⟨Cn, 0, none⟩ = some (.func (.func 55) #[] #[.pointer (some ⟨Of, 0, none⟩), .pointer (some ⟨Cn, 0, none⟩)]) ∧ Hid (Below w.heap.size w w'))) (by kernel_rfl) qd (fun hHeld => ?_)
        try dsimp only at hHeld
        refine take_op (i := 0) (d := 19) (OP := Op.load 85 (Operand.tmp 2)) (T := 85) (v := ?vzz1) rfl rfl rfl rfl (by kernel_rfl) (by kernel_rfl) (by kernel_rfl) (fun _ _ _ h => h) (by rfl) ?hzz1 hHeld ?rzz1
        case hzz1 => (intro w' hSw; (try dsimp only at hSw); go_simp <;> with_reducible rfl)
        try simp only [Act.put, List.setIfInBounds_toArray, List.set_cons_zero, List.set_cons_succ]
        refine take_op (i := 1) (d := 20) (OP := Op.move (Operand.tmp 0)) (T := 27) (v := ?vzz2) rfl rfl rfl rfl (by kernel_rfl) (by kernel_rfl) (by kernel_rfl) (fun _ _ _ h => h) (by rfl) ?hzz2 hHeld ?rzz2
        case hzz2 => (intro w' hSw; (try dsimp only at hSw); go_simp <;> with_reducible rfl)
        try simp only [Act.put, List.setIfInBounds_toArray, List.set_cons_zero, List.set_cons_succ]
        refine take_op (i := 5) (d := 24) (OP := Op.load 85 (Operand.tmp 2)) (T := 85) (v := ?vzz3) rfl rfl rfl rfl (by kernel_rfl) (by kernel_rfl) (by kernel_rfl) (fun _ _ _ h => h) (by rfl) ?hzz3 hHeld ?rzz3
        case hzz3 => (intro w' hSw; (try dsimp only at hSw); go_simp <;> with_reducible rfl)
        try simp only [Act.put, List.setIfInBounds_toArray, List.set_cons_zero, List.set_cons_succ]
        refine take_op (i := 6) (d := 25) (OP := Op.move (Operand.tmp 0)) (T := 27) (v := ?vzz4) rfl rfl rfl rfl (by kernel_rfl) (by kernel_rfl) (by kernel_rfl) (fun _ _ _ h => h) (by rfl) ?hzz4 hHeld ?rzz4
        case hzz4 => (intro w' hSw; (try dsimp only at hSw); go_simp <;> with_reducible rfl)
        try simp only [Act.put, List.setIfInBounds_toArray, List.set_cons_zero, List.set_cons_succ]
        refine call_op (i := 2) (d := 21) (OP := Op.call { callee := Callee.value (Operand.func 57), args := #[Operand.tmp 20], argTypes := #[27] }) (T := 27) (f := 57) (args := #[.pointer (some ⟨p, 0, none⟩)]) rfl rfl rfl rfl (by kernel_rfl) (by rfl) (by go_simp) ?_
        refine (ls _ qd.2.out).mono ?_
        rintro e w1 ⟨rfl, bw1⟩
        have qw1 : w1.cell? ⟨Cn, 0, none⟩ = some (.func (.func 55) #[] #[.pointer (some ⟨Of, 0, none⟩), .pointer (some ⟨Cn, 0, none⟩)]) ∧ Hid (Below w.heap.size w w1) := ⟨cell_stays qd.1 bw1, hide (qd.2.out.trans (bw1.mono qd.2.out.size))⟩
        refine ⟨_, rfl, qw1, ?_⟩
        replace hHeld := qw1
        try simp only [Act.put, List.setIfInBounds_toArray, List.set_cons_zero, List.set_cons_succ]
        refine call_op (i := 3) (d := 22) (OP := Op.call { callee := Callee.value (Operand.tmp 19), args := #[Operand.tmp 21], argTypes := #[27] }) (T := 3) (f := 55) (args := #[.pointer pl, .pointer (some ⟨Of, 0, none⟩), .pointer (some ⟨Cn, 0, none⟩)]) rfl rfl rfl rfl (by kernel_rfl) (by rfl) (by go_simp) ?_
        refine (HL.out _ qw1.2.out).mono ?_
        rintro e w2 ⟨rfl, bw2⟩
        have qw2 : w2.cell? ⟨Cn, 0, none⟩ = some (.func (.func 55) #[] #[.pointer (some ⟨Of, 0, none⟩), .pointer (some ⟨Cn, 0, none⟩)]) ∧ Hid (Below w.heap.size w w2) := ⟨cell_stays qw1.1 bw2, hide (qw1.2.out.trans (bw2.mono qw1.2.out.size))⟩
        refine ⟨_, rfl, qw2, ?_⟩
        replace hHeld := qw2
        try simp only [Act.put, List.setIfInBounds_toArray, List.set_cons_zero, List.set_cons_succ]
        refine take_op (i := 4) (d := 23) (OP := Op.binOp BinOp.add 3 (Operand.tmp 22) (Operand.const (Value.int IntKind.i64 1)) 3) (T := 3) (v := ?vzz5) rfl rfl rfl rfl (by kernel_rfl) (by kernel_rfl) (by kernel_rfl) (fun _ _ _ h => h) (by rfl) ?hzz5 hHeld ?rzz5
        case hzz5 => (intro w' hSw; (try dsimp only at hSw); go_simp <;> with_reducible rfl)
        try simp only [Act.put, List.setIfInBounds_toArray, List.set_cons_zero, List.set_cons_succ]
        refine call_op (i := 7) (d := 26) (OP := Op.call { callee := Callee.value (Operand.func 58), args := #[Operand.tmp 25], argTypes := #[27] }) (T := 27) (f := 58) (args := #[.pointer (some ⟨p, 0, none⟩)]) rfl rfl rfl rfl (by kernel_rfl) (by rfl) (by go_simp) ?_
        refine (rs _ qw2.2.out).mono ?_
        rintro e w3 ⟨rfl, bw3⟩
        have qw3 : w3.cell? ⟨Cn, 0, none⟩ = some (.func (.func 55) #[] #[.pointer (some ⟨Of, 0, none⟩), .pointer (some ⟨Cn, 0, none⟩)]) ∧ Hid (Below w.heap.size w w3) := ⟨cell_stays qw2.1 bw3, hide (qw2.2.out.trans (bw3.mono qw2.2.out.size))⟩
        refine ⟨_, rfl, qw3, ?_⟩
        replace hHeld := qw3
        try simp only [Act.put, List.setIfInBounds_toArray, List.set_cons_zero, List.set_cons_succ]
        refine call_op (i := 8) (d := 27) (OP := Op.call { callee := Callee.value (Operand.tmp 24), args := #[Operand.tmp 26], argTypes := #[27] }) (T := 3) (f := 55) (args := #[.pointer pr, .pointer (some ⟨Of, 0, none⟩), .pointer (some ⟨Cn, 0, none⟩)]) rfl rfl rfl rfl (by kernel_rfl) (by rfl) (by go_simp) ?_
        refine (HR.out _ qw3.2.out).mono ?_
        rintro e w4 ⟨rfl, bw4⟩
        have qw4 : w4.cell? ⟨Cn, 0, none⟩ = some (.func (.func 55) #[] #[.pointer (some ⟨Of, 0, none⟩), .pointer (some ⟨Cn, 0, none⟩)]) ∧ Hid (Below w.heap.size w w4) := ⟨cell_stays qw3.1 bw4, hide (qw3.2.out.trans (bw4.mono qw3.2.out.size))⟩
        refine ⟨_, rfl, qw4, ?_⟩
        replace hHeld := qw4
        try simp only [Act.put, List.setIfInBounds_toArray, List.set_cons_zero, List.set_cons_succ]
        refine take_op (i := 9) (d := 28) (OP := Op.binOp BinOp.add 3 (Operand.tmp 23) (Operand.tmp 27) 3) (T := 3) (v := ?vzz6) rfl rfl rfl rfl (by kernel_rfl) (by kernel_rfl) (by kernel_rfl) (fun _ _ _ h => h) (by rfl) ?hzz6 hHeld ?rzz6
        case hzz6 => (intro w' hSw; (try dsimp only at hSw); go_simp <;> with_reducible rfl)
        try simp only [Act.put, List.setIfInBounds_toArray, List.set_cons_zero, List.set_cons_succ]
        refine take_op (i := 10) (d := 4) (OP := Op.assign (Operand.tmp 28)) (T := 3) (v := ?vzz7) rfl rfl rfl rfl (by kernel_rfl) (by kernel_rfl) (by kernel_rfl) (fun _ _ _ h => h) (by rfl) ?hzz7 hHeld ?rzz7
        case hzz7 => (intro w' hSw; (try dsimp only at hSw); go_simp <;> with_reducible rfl)
        try simp only [Act.put, List.setIfInBounds_toArray, List.set_cons_zero, List.set_cons_succ]
        refine wpAnyH_done (by kernel_rfl) ?_ _
        go_wp2
        go_ret
        refine ⟨?_, qw4.2.out⟩
        rw [HV.out, HA.out]
        simp
end Go.Proofs.Ytckkoigghkgfdaa
namespace Go.Proofs.Ytckkoigghkgfdaa
open Go.RowKit Go.Shelf
set_option linter.unusedSimpArgs false

set_option maxHeartbeats 4000000 in
theorem made36_any (os : List T) (t : T) (sb so cap : Nat) (w : World) (hos : os.length ≤ 1000) (it : In w t) (hn : t.n ≤ 100000) (ios : ∀ o ∈ os, In w o) (hsl : ∀ (i : Nat) (o : T), os[i]? = some o → w.cell? ⟨sb, so + i, none⟩ = some o.ptr) : Calls Try.prog 36 #[mv t, .slice (some ⟨sb, so, none⟩) os.length cap] w fun e w' => e = .returned (.int .i64 (madeIn os t : Nat)) ∧ Below w.heap.size w w' := by
  obtain ⟨x, hx⟩ := t.ptr_shape
  rw [mv_ptr hx]
  obtain ⟨m0, m1, m2, hb⟩ := new3 w (.cells #[.pointer x] 29) (.cells #[.slice (some ⟨sb, so, none⟩) os.length cap] 63) (.cells #[.func (.func 55) #[] #[.pointer (some ⟨w.heap.size + 1, 0, none⟩), .pointer (some ⟨w.heap.size + 1 + 1, 0, none⟩)]] 85)
  obtain ⟨w0, hw0⟩ : ∃ w0, w0 = (((w.alloc (.cells #[.pointer x] 29)).alloc (.cells #[.slice (some ⟨sb, so, none⟩) os.length cap] 63)).alloc (.cells #[.func (.func 55) #[] #[.pointer (some ⟨w.heap.size + 1, 0, none⟩), .pointer (some ⟨w.heap.size + 1 + 1, 0, none⟩)]] 85)) := ⟨_, rfl⟩
  rw [← hw0] at m0 m1 m2 hb
  have env : MEnv w0 (w.heap.size + 1) (w.heap.size + 1 + 1) os := ⟨(cell_of_row _ _ 0 _ 85 (0, 0) m2).trans rfl, ⟨sb, so, cap, (cell_of_row _ _ 0 _ 63 (0, 0) m1).trans rfl, fun i o ho => cell_stays (hsl i o ho) hb⟩, fun o ho => In.below hb (ios o ho)⟩
  have HM : Hid (∀ W, Below w0.heap.size w0 W → Calls Try.prog 55 #[.pointer x, .pointer (some ⟨w.heap.size + 1, 0, none⟩), .pointer (some ⟨w.heap.size + 1 + 1, 0, none⟩)] W fun e w' => e = .returned (.int .i64 (madeIn os t : Nat)) ∧ Below W.heap.size W w') := hide (fun W hW => by
    have := made55_any (w.heap.size + 1) (w.heap.size + 1 + 1) os hos t W (In.below hW (In.below hb it)) hn (env.below hW)
    rw [hx] at this
    exact this)
  have ro : ∀ W, Calls Try.prog 50 #[.agg #[.pointer x]] W fun e w' => e = .returned (.pointer x) ∧ Below W.heap.size W w' := fun W => by
    have := mRoot_any t W
    rw [mv_ptr hx, hx] at this
    exact this
  have q0 : w0.cell? ⟨w.heap.size + 1 + 1, 0, none⟩ = some (.func (.func 55) #[] #[.pointer (some ⟨w.heap.size + 1, 0, none⟩), .pointer (some ⟨w.heap.size + 1 + 1, 0, none⟩)]) ∧ w0.cell? ⟨w.heap.size, 0, none⟩ = some (.pointer x) ∧ Hid (Below w0.heap.size w0 w0) := ⟨env.f, (cell_of_row _ _ 0 _ 29 (0, 0) m0).trans rfl, hide (Below.refl _ _)⟩
  have HB := hide hb
  generalize madeIn os t = MM at *
  clear m0 m1 m2 hb env it ios hsl hx
  have hstf : ∀ a f x y m W, (store a (.func f x y) m).run Try.prog W = stored Try.prog W a (.func f x y) m := fun a f x y m W => run_store Try.prog W a _ m rfl
  go_enter Try.func36, Try.ntmps36
  go_upto_region 3 with (fail)
  rw [← hw0]
  clear hw0 hstf
  have qd : w0.drew.cell? ⟨w.heap.size + 1 + 1, 0, none⟩ = some (.func (.func 55) #[] #[.pointer (some ⟨w.heap.size + 1, 0, none⟩), .pointer (some ⟨w.heap.size + 1 + 1, 0, none⟩)]) ∧ w0.drew.cell? ⟨w.heap.size, 0, none⟩ = some (.pointer x) ∧ Hid (Below w0.heap.size w0 w0.drew) := ⟨q0.1, q0.2.1, hide (q0.2.2.out.trans ((drew_below w0).mono q0.2.2.out.size))⟩
  refine wp_region_held_drew (S := (fun w' => w'.cell? ⟨w.heap.size + 1 + 1, 0, none⟩ = some (.func (.func 55) #[] #[.pointer (some ⟨w.heap.size + 1, 0, none⟩), .pointer (some ⟨w.heap.size + 1 + 1, 0, none⟩)]) ∧ w'.cell? ⟨w.heap.size, 0, none⟩ = some (.pointer x) ∧ Hid (Below w0.heap.size w0 w'))) (by kernel_rfl) qd (fun hHeld => ?_)
  try dsimp only at hHeld
  refine take_op (i := 0) (d := 7) (OP := Op.load 85 (Operand.tmp 5)) (T := 85) (v := ?vzz1) rfl rfl rfl rfl (by kernel_rfl) (by kernel_rfl) (by kernel_rfl) (fun _ _ _ h => h) (by rfl) ?hzz1 hHeld ?rzz1
  case hzz1 => (intro w' hSw; (try dsimp only at hSw); go_simp <;> with_reducible rfl)
  try simp only [Act.put, List.setIfInBounds_toArray, List.set_cons_zero, List.set_cons_succ]
  refine take_op (i := 1) (d := 8) (OP := Op.load 29 (Operand.tmp 2)) (T := 29) (v := ?vzz2) rfl rfl rfl rfl (by kernel_rfl) (by kernel_rfl) (by kernel_rfl) (fun _ _ _ h => h) (by rfl) ?hzz2 hHeld ?rzz2
  case hzz2 => (intro w' hSw; (try dsimp only at hSw); go_simp <;> with_reducible rfl)
  try simp only [Act.put, List.setIfInBounds_toArray, List.set_cons_zero, List.set_cons_succ]
  refine call_op (i := 2) (d := 9) (OP := Op.call { callee := Callee.value (Operand.func 50), args := #[Operand.tmp 8], argTypes := #[29] }) (T := 27) (f := 50) (args := #[.agg #[.pointer x]]) rfl rfl rfl rfl (by kernel_rfl) (by rfl) (by go_simp) ?_
  refine (ro _).mono ?_
  rintro e w1 ⟨rfl, bw1⟩
  have qw1 : w1.cell? ⟨w.heap.size + 1 + 1, 0, none⟩ = some (.func (.func 55) #[] #[.pointer (some ⟨w.heap.size + 1, 0, none⟩), .pointer (some ⟨w.heap.size + 1 + 1, 0, none⟩)]) ∧ w1.cell? ⟨w.heap.size, 0, none⟩ = some (.pointer x) ∧ Hid (Below w0.heap.size w0 w1) := ⟨cell_stays qd.1 bw1, cell_stays qd.2.1 bw1, hide (qd.2.2.out.trans (bw1.mono qd.2.2.out.size))⟩
  refine ⟨_, rfl, qw1, ?_⟩
  replace hHeld := qw1
  try simp only [Act.put, List.setIfInBounds_toArray, List.set_cons_zero, List.set_cons_succ]
  refine call_op (i := 3) (d := 10) (OP := Op.call { callee := Callee.value (Operand.tmp 7), args := #[Operand.tmp 9], argTypes := #[27] }) (T := 3) (f := 55) (args := #[.pointer x, .pointer (some ⟨w.heap.size + 1, 0, none⟩), .pointer (some ⟨w.heap.size + 1 + 1, 0, none⟩)]) rfl rfl rfl rfl (by kernel_rfl) (by rfl) (by go_simp) ?_
  refine (HM.out _ qw1.2.2.out).mono ?_
  rintro e w2 ⟨rfl, bw2⟩
  have qw2 : w2.cell? ⟨w.heap.size + 1 + 1, 0, none⟩ = some (.func (.func 55) #[] #[.pointer (some ⟨w.heap.size + 1, 0, none⟩), .pointer (some ⟨w.heap.size + 1 + 1, 0, none⟩)]) ∧ w2.cell? ⟨w.heap.size, 0, none⟩ = some (.pointer x) ∧ Hid (Below w0.heap.size w0 w2) := ⟨cell_stays qw1.1 bw2, cell_stays qw1.2.1 bw2, hide (qw1.2.2.out.trans (bw2.mono qw1.2.2.out.size))⟩
  refine ⟨_, rfl, qw2, ?_⟩
  replace hHeld := qw2
  try simp only [Act.put, List.setIfInBounds_toArray, List.set_cons_zero, List.set_cons_succ]
  refine take_op (i := 4) (d := 4) (OP := Op.assign (Operand.tmp 10)) (T := 3) (v := ?vzz3) rfl rfl rfl rfl (by kernel_rfl) (by kernel_rfl) (by kernel_rfl) (fun _ _ _ h => h) (by rfl) ?hzz3 hHeld ?rzz3
  case hzz3 => (intro w' hSw; (try dsimp only at hSw); go_simp <;> with_reducible rfl)
  try simp only [Act.put, List.setIfInBounds_toArray, List.set_cons_zero, List.set_cons_succ]
  refine wpAnyH_done (by kernel_rfl) ?_ _
  go_wp2
  go_ret
  exact ⟨rfl, HB.out.trans (qw2.2.2.out.mono HB.out.size)⟩
end Go.Proofs.Ytckkoigghkgfdaa
