/-
  The law JournalMaps (15), walked.
-/
import Derived.Test.YtkkpdgfllnbigaaGreatJoK
import Derived.Test.YtkkpdgfllnbigaaGreatMg16
import Derived.BigCall
import Derived.BigGuard
import Derived.BigGuardPart
import Derived.BigRegion
namespace Go.Proofs.YtkkpdgfllnbigaaGreat.Jo
open Go.RowKit Go.Shelf
set_option linter.unusedSimpArgs false
attribute [local go_sem] Oper.semAt_some

theorem els_bad {l : List Kv} (hb : mayL l = false) : elsL l = [] := by rw [elsL, hb]; rfl
theorem jelBad {w : World} {t : Pm.T} {pm : Option Addr} (h : Mg w t) (hp : t.ptr = .pointer pm) (hb : mayL t.list = false) : Calls Tryz.prog 97 #[.agg #[.pointer pm]] w fun e w' => ∃ ao n c, e = .returned (.tuple #[.slice ao n c, .int .i64 2]) ∧ Below w.heap.size w w' := (elementsJ h hp).mono fun e w' hh => by
  obtain ⟨ao, c, he, -, hb'⟩ := hh
  rw [hb, if_neg (by decide)] at he
  exact ⟨_, _, _, he, hb'⟩
theorem jtxBad {w : World} {t : Pm.T} {pm : Option Addr} (h : Mg w t) (hp : t.ptr = .pointer pm) (hb : mayL t.list = false) : Calls Tryz.prog 101 #[.agg #[.pointer pm]] w fun e w' => ∃ ao n c, e = .returned (.tuple #[.slice ao n c, .int .i64 2]) ∧ Below w.heap.size w w' := (textsJ h hp).mono fun e w' hh => by
  obtain ⟨ao, c, he, -, hb'⟩ := hh
  rw [hb, if_neg (by decide)] at he
  exact ⟨_, _, _, he, hb'⟩
theorem at0Bad {w : World} {t : Pm.T} {pm : Option Addr} (h : Mg w t) (hp : t.ptr = .pointer pm) (hb : mayL t.list = false) : Calls Tryz.prog 103 #[.agg #[.pointer pm], .int .i64 0] w fun e w' => e = .returned (.tuple #[.agg #[.int .i64 0, .int .i64 0, .string ⟨#[]⟩, .int .i64 0, .int .i64 0, .string ⟨#[]⟩], .bool false]) ∧ Below w.heap.size w w' := (jAt_any 0 h hp (by decide) (by decide)).mono fun e w' hh => by
  have : atL t.list 0 = (zE, false) := by unfold atL; rw [if_neg (by simp [hb])]
  rw [this] at hh
  exact hh
theorem jwrBad {w : World} {t : Pm.T} {pm : Option Addr} (h : Mg w t) (hn : t.n < 400) (hp : t.ptr = .pointer pm) (hb : mayL t.list = false) : Calls Tryz.prog 90 #[.agg #[.pointer pm], .agg #[.int .i64 1, .int .i64 0, .string ⟨#[97]⟩, .int .i64 1, .int .i64 0], .string ⟨#[120]⟩] w fun e w' => ∃ t' pt, t'.ptr = .pointer pt ∧ e = .returned (.tuple #[.agg #[.pointer pt], .int .i64 2]) ∧ Mg w' t' ∧ t'.list = [] ∧ Below w.heap.size w w' := (appP (atS 1) ⟨#[120]⟩ h hn hp).mono fun e w' hh => by
  obtain ⟨t', pt, hpt, he, hm, hl', hbl⟩ := hh
  have : okWr t.list (atS 1) ⟨#[120]⟩ = false := by rw [okWr, hb, Bool.and_false]
  rw [this, if_neg (by decide)] at he hl'
  exact ⟨t', pt, hpt, he, hm, hl', hbl⟩
theorem sinceZ {w : World} {t : Pm.T} {pm : Option Addr} (hp : t.ptr = .pointer pm) : Calls Tryz.prog 105 #[.agg #[.pointer pm], .agg #[.int .i64 0, .int .i64 0, .string ⟨#[]⟩, .int .i64 0, .int .i64 0]] w fun e w' => ∃ L Sb : Nat, e = .returned (.func (.func 162) #[] #[.pointer (some ⟨Sb, 0, none⟩), .pointer (some ⟨L, 0, none⟩)]) ∧ (w'.cell? ⟨L, 0, none⟩ = some (.pointer pm) ∧ L < w'.heap.size ∧ w'.heap[Sb]? = some (.cells #[.int .i64 0, .int .i64 0, .string ⟨#[]⟩, .int .i64 0, .int .i64 0] 43 (0, 0))) ∧ Below w.heap.size w w' := by
  have := since105 t zS w
  unfold Pm.mv at this
  rw [hp] at this
  refine this.mono fun e w' hh => ?_
  obtain ⟨he, hw⟩ := hh
  refine ⟨_, _, he, ?_, by rw [hw]; exact ((Below.refl _ w).alloc (Nat.le_refl _) _).alloc (by simp) _⟩
  rw [hw]
  exact ⟨(cell_of_row _ _ 0 _ 27 (0, 0) (new2 w _ _).1).trans rfl, (by simp; omega), (new2 w _ _).2⟩
theorem goesZ {w : World} {t : Pm.T} {pm : Option Addr} {L Sb : Nat} (h : Mg w t) (hp : t.ptr = .pointer pm) (hb : mayL t.list = false) (hL : w.cell? ⟨L, 0, none⟩ = some (.pointer pm)) (hLt : L < w.heap.size) (hS : w.heap[Sb]? = some (.cells #[.int .i64 0, .int .i64 0, .string ⟨#[]⟩, .int .i64 0, .int .i64 0] 43 (0, 0))) : Calls Tryz.prog 104 #[.func (.func 162) #[] #[.pointer (some ⟨Sb, 0, none⟩), .pointer (some ⟨L, 0, none⟩)], .slice none 0 0, .int .i64 0] w fun e w' => e = .returned (.bool true) ∧ Below w.heap.size w w' :=
  jgoes_all (sT := zS) (xs := []) h (by rw [sinL_zero, els_bad hb]) (by decide) (by rw [hp]; exact hL) hLt hS (Re.nil _ _)
set_option maxHeartbeats 8000000 in
set_option maxRecDepth 100000 in
theorem maps15 (l : List Kv) (ao : Option Addr) (c : Nat) (w : World) (h : Rp w ao l) (hs : ∀ x ∈ l, x.1.size ≤ 9223372036854775807) : Calls Tryz.prog 15 #[.slice ao l.length c] w fun e w' => e = .returned (.bool true) ∧ Below w.heap.size w w' := by
  obtain ⟨N, hN⟩ : ∃ N, N = l.length := ⟨_, rfl⟩
  rw [← hN]
  have H := hide (And.intro hN (And.intro h hs))
  clear hN h hs
  have hkn := known84
  by_cases hbig : N > 60
  · have z : (60 : Int) < (N : Int) := by omega
    have d : decide ((60 : Int) < (N : Int)) = true := by simpa using z
    clear hbig
    go_enter Tryz.func15, Tryz.ntmps15
    go_wp2_with (go_at_call 84; refine (hkn _).mono ?_; rintro e w1 ⟨rfl, b1⟩; have HB1 := hide b1; clear b1; dsimp only)
    go_ret
    exact ⟨rfl, HB1.out⟩
  · have z : ¬ (60 : Int) < (N : Int) := by omega
    have d : decide ((60 : Int) < (N : Int)) = false := by simpa using z
    have hNb : N ≤ 60 := by omega
    clear hbig
    go_enter Tryz.func15, Tryz.ntmps15
    go_upto_region 5 with fail
    obtain ⟨w0, hw0⟩ : ∃ q, q = w.alloc (.cells #[.pointer none] 27) := ⟨_, rfl⟩
    have r0 := heap_alloc_new w (.cells #[.pointer none] 27)
    have b0 : Below w.heap.size w (w.alloc (.cells #[.pointer none] 27)) := (Below.refl _ w).alloc (Nat.le_refl _) _
    rw [← hw0] at r0 b0 ⊢
    have HR0 := hide (And.intro r0 b0)
    clear r0 b0 hw0 z d
    go_wp2
    go_loopw [6] (fun iv wr => ∃ (i : Nat) (t : Pm.T) (p : Option Addr), i ≤ N ∧ iv = .int .i64 i ∧ Hid (Boxd wr w.heap.size p t ∧ t.n ≤ i ∧ KeysOf t (l.take i) ∧ Below w.heap.size w wr)) (fun iv _ => N - (intOf iv).toNat)
    case atStart => exact ⟨0, .nil, none, by omega, rfl, hide ⟨⟨HR0.out.1, rfl, Mg.nil _⟩, Nat.zero_le _, fun k => by simp [Pm.T.list], HR0.out.2⟩⟩
    case round =>
      obtain ⟨i, t, p, hi, rfl, HI⟩ := hrel
      by_cases h1 : i < N
      · have z1 : (i : Int) < (N : Int) := by omega
        have d1 : decide (i < N) = true := by simpa using h1
        obtain ⟨x, hx⟩ : ∃ x, l[i]? = some x := ⟨_, List.getElem?_eq_getElem (by rw [← H.out.1]; exact h1)⟩
        obtain ⟨ab, off, hao, y0, y1⟩ := H.out.2.1 _ _ hx
        have hab : ab < w.heap.size := World.block_lt_of_cell? _ _ y0
        have HAB := hide hab
        have q0 := cell_stays y0 HI.out.2.2.2
        have q1 := cell_stays y1 HI.out.2.2.2
        obtain ⟨key, val⟩ := x
        dsimp only at q0 q1
        subst hao
        have hput : ∀ W, Below wr.heap.size wr W → Calls Tryz.prog 25 #[.agg #[.pointer p], .string key, .string val] W fun e w' => ∃ t' p', t'.ptr = .pointer p' ∧ e = .returned (.agg #[.pointer p']) ∧ Pm.In w' t' ∧ Pm.Puts W.heap.size key val t t' ∧ Below W.heap.size W w' := fun W hW => by
          have := Pm.mPut_any t key val W (Pm.In.below hW HI.out.1.2.2.inn) (by have := HI.out.1.2.2.few; omega)
          unfold Pm.mv at this
          rw [HI.out.1.2.1] at this
          refine this.mono fun e w' hh => ?_
          obtain ⟨t', he, h2, h3, h4⟩ := hh
          obtain ⟨p', hp'⟩ := t'.ptr_shape
          exact ⟨t', p', hp', by rw [he, hp'], h2, h3, h4⟩
        have HX := hide (And.intro hx (H.out.2.2 _ (List.mem_of_getElem? hx)))
        clear hx y0 y1 hab
        go_upto_region 8 with fail
        have qd : wr.drew.cell? ⟨ab, off + i * 2, none⟩ = some (.string key) ∧ wr.drew.cell? ⟨ab, off + i * 2 + 1, none⟩ = some (.string val) := ⟨q0, q1⟩
        have b0 : Below wr.heap.size wr wr.drew := drew_below wr
        refine wp_region_held_drew (S := fun w' => w'.cell? ⟨ab, off + i * 2, none⟩ = some (.string key) ∧ w'.cell? ⟨ab, off + i * 2 + 1, none⟩ = some (.string val)) (by kernel_rfl) qd (fun hHeld => ?_)
        clear qd
        obtain ⟨Wd, hWd⟩ : ∃ Wd, Wd = wr.drew := ⟨_, rfl⟩
        rw [← hWd] at hHeld b0 ⊢
        clear hWd
        have lc : Wd.cell? ⟨w.heap.size, 0, none⟩ = some (.pointer p) := cell_stays HI.out.1.cell b0
        refine take_op (i := 1) (d := 35) (OP := Op.move (Operand.tmp 0)) (T := 47) (v := ?v1) rfl rfl rfl rfl (by kernel_rfl) (by kernel_rfl) (by kernel_rfl) (fun _ _ _ h => h) (by rfl) ?h1 hHeld ?r1
        case h1 => (intro w' hSw; (try dsimp only at hSw); go_simp <;> with_reducible rfl)
        try simp only [Act.put, sI, sZ, sS]
        refine take_op (i := 2) (d := 36) (OP := Op.move (Operand.tmp 6)) (T := 3) (v := ?v2) rfl rfl rfl rfl (by kernel_rfl) (by kernel_rfl) (by kernel_rfl) (fun _ _ _ h => h) (by rfl) ?h2 hHeld ?r2
        case h2 => (intro w' hSw; (try dsimp only at hSw); go_simp <;> with_reducible rfl)
        try simp only [Act.put, sI, sZ, sS]
        refine take_op (i := 3) (d := 37) (OP := Op.indexAddr 47 (Operand.tmp 35) (Operand.tmp 36)) (T := 0) (v := ?v3) rfl rfl rfl rfl (by kernel_rfl) (by kernel_rfl) (by kernel_rfl) (fun _ _ _ h => h) (by rfl) ?h3 hHeld ?r3
        case h3 => (intro w' hSw; (try dsimp only at hSw); go_simp <;> with_reducible rfl)
        try simp only [Act.put, sI, sZ, sS]
        refine take_op (i := 4) (d := 38) (OP := Op.indexAddr 49 (Operand.tmp 37) (Operand.const (Value.int IntKind.i64 0))) (T := 0) (v := ?v4) rfl rfl rfl rfl (by kernel_rfl) (by kernel_rfl) (by kernel_rfl) (fun _ _ _ h => h) (by rfl) ?h4 hHeld ?r4
        case h4 => (intro w' hSw; (try dsimp only at hSw); go_simp <;> with_reducible rfl)
        try simp only [Act.put, sI, sZ, sS]
        refine take_op (i := 5) (d := 39) (OP := Op.load 9 (Operand.tmp 38)) (T := 9) (v := ?v5) rfl rfl rfl rfl (by kernel_rfl) (by kernel_rfl) (by kernel_rfl) (fun _ _ _ h => h) (by rfl) ?h5 hHeld ?r5
        case h5 => (intro w' hSw; (try dsimp only at hSw); go_simp <;> with_reducible rfl)
        try simp only [Act.put, sI, sZ, sS]
        refine take_op (i := 6) (d := 40) (OP := Op.move (Operand.tmp 0)) (T := 47) (v := ?v6) rfl rfl rfl rfl (by kernel_rfl) (by kernel_rfl) (by kernel_rfl) (fun _ _ _ h => h) (by rfl) ?h6 hHeld ?r6
        case h6 => (intro w' hSw; (try dsimp only at hSw); go_simp <;> with_reducible rfl)
        try simp only [Act.put, sI, sZ, sS]
        refine take_op (i := 7) (d := 41) (OP := Op.move (Operand.tmp 6)) (T := 3) (v := ?v7) rfl rfl rfl rfl (by kernel_rfl) (by kernel_rfl) (by kernel_rfl) (fun _ _ _ h => h) (by rfl) ?h7 hHeld ?r7
        case h7 => (intro w' hSw; (try dsimp only at hSw); go_simp <;> with_reducible rfl)
        try simp only [Act.put, sI, sZ, sS]
        refine take_op (i := 8) (d := 42) (OP := Op.indexAddr 47 (Operand.tmp 40) (Operand.tmp 41)) (T := 0) (v := ?v8) rfl rfl rfl rfl (by kernel_rfl) (by kernel_rfl) (by kernel_rfl) (fun _ _ _ h => h) (by rfl) ?h8 hHeld ?r8
        case h8 => (intro w' hSw; (try dsimp only at hSw); go_simp <;> with_reducible rfl)
        try simp only [Act.put, sI, sZ, sS]
        refine take_op (i := 9) (d := 43) (OP := Op.indexAddr 49 (Operand.tmp 42) (Operand.const (Value.int IntKind.i64 1))) (T := 0) (v := ?v9) rfl rfl rfl rfl (by kernel_rfl) (by kernel_rfl) (by kernel_rfl) (fun _ _ _ h => h) (by rfl) ?h9 hHeld ?r9
        case h9 => (intro w' hSw; (try dsimp only at hSw); go_simp <;> with_reducible rfl)
        try simp only [Act.put, sI, sZ, sS]
        refine take_op (i := 10) (d := 44) (OP := Op.load 9 (Operand.tmp 43)) (T := 9) (v := ?v10) rfl rfl rfl rfl (by kernel_rfl) (by kernel_rfl) (by kernel_rfl) (fun _ _ _ h => h) (by rfl) ?h10 hHeld ?r10
        case h10 => (intro w' hSw; (try dsimp only at hSw); go_simp <;> with_reducible rfl)
        try simp only [Act.put, sI, sZ, sS]
        refine turn_op (i := 0) (d := 34) (OP := Op.load 27 (Operand.tmp 3)) (T := 27) (v := .agg #[.pointer p]) (w' := Wd) rfl rfl rfl rfl (by kernel_rfl) (by rfl) (by go_simp) hHeld ?_
        try simp only [Act.put, sI, sZ, sS]
        refine call_op (i := 11) (d := 45) (OP := Op.call { callee := Callee.value (Operand.func 25), args := #[Operand.tmp 34, Operand.tmp 39, Operand.tmp 44], argTypes := #[27, 9, 9] }) (T := 27) (f := 25) (args := #[.agg #[.pointer p], .string key, .string val]) rfl rfl rfl rfl (by kernel_rfl) (by rfl) (by go_simp) ?_
        refine (hput _ b0).mono ?_
        rintro e z1 ⟨t', p', hp', rfl, hi', hpu, bz⟩
        have hz : z1.cell? ⟨ab, off + i * 2, none⟩ = some (.string key) ∧ z1.cell? ⟨ab, off + i * 2 + 1, none⟩ = some (.string val) := ⟨cell_stays hHeld.1 bz, cell_stays hHeld.2 bz⟩
        have bb := b0.trans (bz.mono b0.size)
        refine ⟨_, rfl, hz, ?_⟩
        try simp only [Act.put, sI, sZ, sS]
        have rz := (bb.block _ (gI HI.out.1.1).1).trans HI.out.1.1
        obtain ⟨u9, o9⟩ := set_one (i := 0) (.pointer p') rz
        refine skip_op (i := 12) (OP := Op.store 27 (Operand.tmp 3) (Operand.tmp 45)) (T := 0) (w' := z1.setCell ⟨w.heap.size, 0, none⟩ (.pointer p')) rfl rfl rfl rfl (by kernel_rfl) (by rfl) (exec_st27 rfl rfl ((cell_of_row _ _ 0 _ 27 (0, 0) rz).trans rfl) (frozen_of_row _ _ 0 _ 27 rz)) ⟨⟨o9.cell hz.1 (by simp only; have := HAB.out; omega), o9.cell hz.2 (by simp only; have := HAB.out; omega)⟩, ?_⟩
        try simp only [Act.put, sI, sZ, sS]
        refine wpAnyH_done (by kernel_rfl) ?_ _
        have HE := hide (And.intro u9 (And.intro o9 (And.intro hp' (And.intro hi' (And.intro hpu (And.intro bb (And.intro b0 bz)))))))
        have HRZ := hide rz
        clear u9 o9 hp' hi' hpu bb bz b0 hz rz lc hHeld
        go_wp2
        go_roundw
        case rel =>
          obtain ⟨u9, o9, hp', hi', hpu, bb, b0, bz⟩ := HE.out
          have hmW : Mg Wd t := HI.out.1.2.2.below b0
          have hmz : Mg z1 t' := hmW.put hpu hi' (by have := HI.out.2.1; omega) HX.out.2
          refine ⟨i + 1, t', p', by omega, by go_num, hide ⟨⟨by simpa using u9, hp', hmz.aside HRZ.out o9⟩, ?_, ?_, ?_⟩⟩
          · have := HI.out.1.2.2.put_n hpu; have := HI.out.2.1; omega
          · rw [List.take_add_one, HX.out.1]; exact HI.out.2.2.1.put HI.out.1.2.2 hpu
          · have bw := HI.out.2.2.2.trans (bb.mono HI.out.2.2.2.size)
            exact Below.only bw o9 bw.size (fun k e => by have e' : k = w.heap.size := e; omega)
        case measure => simp [intOf]; omega
      · obtain rfl : i = N := by omega
        have d1 : decide (i < i) = false := by simp
        have z1 : ¬ (i : Int) < (i : Int) := by omega
        obtain ⟨bx, hn60, hks, bw⟩ := HI.out
        have HN60 : Hid (t.n ≤ 60) := hide (by omega)
        clear hn60
        rw [H.out.1, List.take_length] at hks
        have HKS := hide hks
        clear hks h1 HI
        have HBX := hide bx
        have HBW := hide bw
        clear bx bw
        go_wp2
        clear z1 d1
        obtain ⟨w1, rfl⟩ : ∃ q, q = wr := ⟨_, rfl⟩
        go_loopw [4, 5, 7] (fun kv tv iv wq => ∃ j : Nat, j ≤ i ∧ iv = .int .i64 j ∧ Hid (OI w1 w1.heap.size ((l.take j).map Prod.fst) ((l.take j).map fun x => (t.find x.1).val) kv tv wq)) (fun _ _ iv _ => i - (intOf iv).toNat)
        case atStart => exact ⟨0, by omega, rfl, hide ⟨Below.refl _ _, Ot.nil _ _, Ot.nil _ _, fun _ e => by cases e⟩⟩
        case round =>
          obtain ⟨j, hj, rfl, HI⟩ := hrel
          obtain ⟨wq, rfl⟩ : ∃ q, q = wr := ⟨_, rfl⟩
          by_cases h1 : j < i
          · have z1 : (j : Int) < (i : Int) := by omega
            have d1 : decide (j < i) = true := by simpa using h1
            obtain ⟨x, hx⟩ : ∃ x, l[j]? = some x := ⟨_, List.getElem?_eq_getElem (by rw [← H.out.1]; exact h1)⟩
            have bq : Below w.heap.size w wq := HBW.out.trans (HI.out.low.mono HBW.out.size)
            obtain ⟨ab, off, hao, y0, -⟩ := H.out.2.1 _ _ hx
            have q0 := cell_stays y0 bq
            have qm : wq.cell? ⟨w.heap.size, 0, none⟩ = some (.pointer p) := cell_stays HBX.out.cell HI.out.low
            obtain ⟨key, val⟩ := x
            dsimp only at q0
            subst hao
            obtain ⟨V, hV⟩ : ∃ V, V = (t.find key).val := ⟨_, rfl⟩
            have hget : ∀ W, Below wq.heap.size wq W → Calls Tryz.prog 26 #[.agg #[.pointer p], .string key] W fun e w' => e = .returned (.tuple #[.string V, .bool (t.find key).isSome]) ∧ Below W.heap.size W w' := fun W hW => by
              have hlow := HI.out.low.trans (hW.mono HI.out.low.size)
              have := Pm.get_any t key W (Pm.In.below hlow HBX.out.2.2.inn)
              unfold Pm.mv at this
              rw [HBX.out.2.1, ← hV] at this
              exact this
            generalize (t.find key).isSome = FS at hget
            have HX := hide (And.intro hx hV)
            clear hx y0 bq hV
            go_upto_region 12 with fail
            have qd : wq.drew.cell? ⟨w.heap.size, 0, none⟩ = some (.pointer p) ∧ wq.drew.cell? ⟨ab, off + j * 2, none⟩ = some (.string key) := ⟨qm, q0⟩
            have b0 : Below wq.heap.size wq wq.drew := drew_below wq
            refine wp_region_held_drew (S := fun w' => w'.cell? ⟨w.heap.size, 0, none⟩ = some (.pointer p) ∧ w'.cell? ⟨ab, off + j * 2, none⟩ = some (.string key)) (by kernel_rfl) qd (fun hHeld => ?_)
            clear qd
            obtain ⟨Wd, hWd⟩ : ∃ Wd, Wd = wq.drew := ⟨_, rfl⟩
            rw [← hWd] at hHeld b0 ⊢
            clear hWd
            refine take_op (i := 0) (d := 53) (OP := Op.load 27 (Operand.tmp 3)) (T := 27) (v := ?v11) rfl rfl rfl rfl (by kernel_rfl) (by kernel_rfl) (by kernel_rfl) (fun _ _ _ h => h) (by rfl) ?h11 hHeld ?r11
            case h11 => (intro w' hSw; (try dsimp only at hSw); go_simp <;> with_reducible rfl)
            try simp only [Act.put, sI, sZ, sS]
            refine take_op (i := 1) (d := 54) (OP := Op.move (Operand.tmp 0)) (T := 47) (v := ?v12) rfl rfl rfl rfl (by kernel_rfl) (by kernel_rfl) (by kernel_rfl) (fun _ _ _ h => h) (by rfl) ?h12 hHeld ?r12
            case h12 => (intro w' hSw; (try dsimp only at hSw); go_simp <;> with_reducible rfl)
            try simp only [Act.put, sI, sZ, sS]
            refine take_op (i := 2) (d := 55) (OP := Op.move (Operand.tmp 7)) (T := 3) (v := ?v13) rfl rfl rfl rfl (by kernel_rfl) (by kernel_rfl) (by kernel_rfl) (fun _ _ _ h => h) (by rfl) ?h13 hHeld ?r13
            case h13 => (intro w' hSw; (try dsimp only at hSw); go_simp <;> with_reducible rfl)
            try simp only [Act.put, sI, sZ, sS]
            refine take_op (i := 3) (d := 56) (OP := Op.indexAddr 47 (Operand.tmp 54) (Operand.tmp 55)) (T := 0) (v := ?v14) rfl rfl rfl rfl (by kernel_rfl) (by kernel_rfl) (by kernel_rfl) (fun _ _ _ h => h) (by rfl) ?h14 hHeld ?r14
            case h14 => (intro w' hSw; (try dsimp only at hSw); go_simp <;> with_reducible rfl)
            try simp only [Act.put, sI, sZ, sS]
            refine take_op (i := 4) (d := 57) (OP := Op.indexAddr 49 (Operand.tmp 56) (Operand.const (Value.int IntKind.i64 0))) (T := 0) (v := ?v15) rfl rfl rfl rfl (by kernel_rfl) (by kernel_rfl) (by kernel_rfl) (fun _ _ _ h => h) (by rfl) ?h15 hHeld ?r15
            case h15 => (intro w' hSw; (try dsimp only at hSw); go_simp <;> with_reducible rfl)
            try simp only [Act.put, sI, sZ, sS]
            refine take_op (i := 5) (d := 58) (OP := Op.load 9 (Operand.tmp 57)) (T := 9) (v := ?v16) rfl rfl rfl rfl (by kernel_rfl) (by kernel_rfl) (by kernel_rfl) (fun _ _ _ h => h) (by rfl) ?h16 hHeld ?r16
            case h16 => (intro w' hSw; (try dsimp only at hSw); go_simp <;> with_reducible rfl)
            try simp only [Act.put, sI, sZ, sS]
            refine call_op (i := 6) (d := 59) (OP := Op.call { callee := Callee.value (Operand.func 26), args := #[Operand.tmp 53, Operand.tmp 58], argTypes := #[27, 9] }) (T := 50) (f := 26) (args := #[.agg #[.pointer p], .string key]) rfl rfl rfl rfl (by kernel_rfl) (by rfl) (by go_simp) ?_
            refine (hget _ b0).mono ?_
            rintro e z1 ⟨rfl, bz⟩
            have hz : z1.cell? ⟨w.heap.size, 0, none⟩ = some (.pointer p) ∧ z1.cell? ⟨ab, off + j * 2, none⟩ = some (.string key) := ⟨cell_stays hHeld.1 bz, cell_stays hHeld.2 bz⟩
            have bb := b0.trans (bz.mono b0.size)
            refine ⟨_, rfl, hz, ?_⟩
            try simp only [Act.put, sI, sZ, sS]
            refine take_op (i := 7) (d := 52) (OP := Op.move (Operand.tmp 59)) (T := 50) (v := ?v17) rfl rfl rfl rfl (by kernel_rfl) (by kernel_rfl) (by kernel_rfl) (fun _ _ _ h => h) (by rfl) ?h17 hz ?r17
            case h17 => (intro w' hSw; (try dsimp only at hSw); go_simp <;> with_reducible rfl)
            try simp only [Act.put, sI, sZ, sS]
            refine take_op (i := 8) (d := 60) (OP := Op.extract (Operand.tmp 52) 0) (T := 9) (v := ?v18) rfl rfl rfl rfl (by kernel_rfl) (by kernel_rfl) (by kernel_rfl) (fun _ _ _ h => h) (by rfl) ?h18 hz ?r18
            case h18 => (intro w' hSw; (try dsimp only at hSw); go_simp <;> with_reducible rfl)
            try simp only [Act.put, sI, sZ, sS]
            refine take_op (i := 9) (d := 61) (OP := Op.extract (Operand.tmp 52) 1) (T := 4) (v := ?v19) rfl rfl rfl rfl (by kernel_rfl) (by kernel_rfl) (by kernel_rfl) (fun _ _ _ h => h) (by rfl) ?h19 hz ?r19
            case h19 => (intro w' hSw; (try dsimp only at hSw); go_simp <;> with_reducible rfl)
            try simp only [Act.put, sI, sZ, sS]
            refine take_op (i := 10) (d := 8) (OP := Op.assign (Operand.tmp 60)) (T := 9) (v := ?v20) rfl rfl rfl rfl (by kernel_rfl) (by kernel_rfl) (by kernel_rfl) (fun _ _ _ h => h) (by rfl) ?h20 hz ?r20
            case h20 => (intro w' hSw; (try dsimp only at hSw); go_simp <;> with_reducible rfl)
            try simp only [Act.put, sI, sZ, sS]
            refine take_op (i := 11) (d := 9) (OP := Op.assign (Operand.tmp 61)) (T := 4) (v := ?v21) rfl rfl rfl rfl (by kernel_rfl) (by kernel_rfl) (by kernel_rfl) (fun _ _ _ h => h) (by rfl) ?h21 hz ?r21
            case h21 => (intro w' hSw; (try dsimp only at hSw); go_simp <;> with_reducible rfl)
            try simp only [Act.put, sI, sZ, sS]
            refine wpAnyH_done (by kernel_rfl) ?_ _
            have hoi := HI.out.below HI.out.low.size bb
            have sz : w1.heap.size ≤ z1.heap.size := Nat.le_trans HI.out.low.size bb.size
            obtain ⟨a1, c1, w2, run1, oi1, on1⟩ := (hoi.alloc sz (.cells #[.string key] 9)).pushK (b := z1.heap.size) (y := key) (by simp; omega) (by simp; omega) (heap_alloc_new z1 _)
            have sz2 : w1.heap.size ≤ w2.heap.size := oi1.low.size
            obtain ⟨KV, hKV⟩ : ∃ q, q = Value.slice a1 ((List.map Prod.fst (List.take j l)).length + 1) c1 := ⟨_, rfl⟩
            rw [← hKV] at run1 oi1
            obtain ⟨a2, c2, w3, run2, oi2, on2⟩ := (oi1.alloc sz2 (.cells #[.string V] 9)).pushT (b := w2.heap.size) (y := V) (by simp; omega) (by simp; omega) (heap_alloc_new w2 _)
            obtain ⟨TV, hTV⟩ : ∃ q, q = Value.slice a2 ((List.map (fun x => (t.find x.1).val) (List.take j l)).length + 1) c2 := ⟨_, rfl⟩
            rw [← hTV] at run2 oi2
            have HO2 := hide oi2
            have cz := hz.2
            clear hKV hTV oi1 oi2 on1 on2 hoi sz sz2 hz bb bz b0 hHeld qm q0 hget
            go_wp2_with (at_builtin; first | refine wpList_app2 rfl (.tmp 62) (.tmp 68) 63 63 63 rfl rfl rfl rfl run1 ?_ | refine wpList_app2 rfl (.tmp 70) (.tmp 72) 63 63 63 rfl rfl rfl rfl run2 ?_)
            go_roundw
            case rel =>
              refine ⟨j + 1, by omega, by go_num, hide ?_⟩
              rw [List.take_add_one, HX.out.1]
              simp only [Option.toList, List.map_append, List.map_cons, List.map_nil]
              rw [← HX.out.2]
              exact HO2.out
            case measure => simp [intOf]; omega
          · obtain rfl : j = i := by omega
            have d1 : decide (j < j) = false := by simp
            have z1 : ¬ (j : Int) < (j : Int) := by omega
            have oi := HI.out
            rw [H.out.1, List.take_length] at oi
            obtain ⟨ka, kc, hk4⟩ := oi.k.form
            obtain ⟨ta, tc, hk5⟩ := oi.t.form
            rw [List.length_map, ← H.out.1] at hk4 hk5
            subst hk4 hk5
            obtain ⟨MB, hMB⟩ : ∃ q, q = mayL t.list := ⟨_, rfl⟩
            have hmap : Calls Tryz.prog 99 #[.slice ka j kc, .slice ta j tc] wq fun e w' => e = .returned (.bool MB) ∧ Below wq.heap.size wq w' := by
              have := jrefMap_any (c := kc) (d := tc) (l.map fun x => (x.1, (t.find x.1).val)) (w := wq) (ao := ka) (bo := ta) (by rw [List.map_map]; exact oi.k.rs) (by rw [List.map_map]; exact oi.t.rs) (by rw [List.length_map, ← H.out.1]; omega) (fun x hx => by
                obtain ⟨y, hy, rfl⟩ := List.mem_map.1 hx
                exact H.out.2.2 y hy)
              rw [HKS.out.may HBX.out.2.2.srt, List.length_map, ← H.out.1, ← hMB] at this
              exact this
            have bx : Boxd wq w.heap.size p t := HBX.out.below oi.low
            have bq : Below w.heap.size w wq := HBW.out.trans (oi.low.mono HBW.out.size)
            have qm := bx.cell
            have hmay := jmayP bx.2.2 bx.2.1
            rw [← hMB] at hmay
            have HM := hide (And.intro bx (And.intro bq hMB))
            clear HI oi HKS HBX HBW bx bq hMB h1
            cases MB with
            | true =>
              go_wp2_with (first
                | (go_at_call 99; refine hmap.mono ?_; rintro e w2 ⟨rfl, b2⟩; have qm2 := cell_stays qm b2; have H2 := hide b2; clear b2; dsimp only)
                | (go_at_call 100; refine (hmay w2 H2.out).mono ?_; rintro e w3 ⟨rfl, b3⟩; have H3 := hide (H2.out.trans (b3.mono H2.out.size)); clear b3; dsimp only)
                | (go_at_call 84; refine (hkn w3).mono ?_; rintro e w4 ⟨rfl, b4⟩; have H4 := hide (H3.out.trans (b4.mono H3.out.size)); clear b4; dsimp only))
              go_ret
              exact ⟨rfl, HM.out.2.1.trans (H4.out.mono HM.out.2.1.size)⟩
            | false =>
              obtain ⟨bx, bq, hMB⟩ := HM.out
              have hel := fun W (hW : Below wq.heap.size wq W) => jelBad (bx.2.2.below hW) bx.2.1 hMB.symm
              have htx := fun W (hW : Below wq.heap.size wq W) => jtxBad (bx.2.2.below hW) bx.2.1 hMB.symm
              have hat0 := fun W (hW : Below wq.heap.size wq W) => at0Bad (bx.2.2.below hW) bx.2.1 hMB.symm
              have hp1 : ∀ W, Below wq.heap.size wq W → Calls Tryz.prog 93 #[.agg #[.pointer p], .agg #[.pointer p]] W fun e w' => e = .returned (.bool false) ∧ Below W.heap.size W w' := fun W hW => partP (bx.2.2.below hW) bx.2.1 (bx.2.2.below hW) bx.2.1 rfl rfl (by rw [← hMB]; rfl)
              have hp2 : ∀ W, Below wq.heap.size wq W → Calls Tryz.prog 93 #[.agg #[.pointer none], .agg #[.pointer p]] W fun e w' => e = .returned (.bool false) ∧ Below W.heap.size W w' := fun W hW => partP (Mg.nil W) rfl (bx.2.2.below hW) bx.2.1 rfl rfl (by rw [← hMB, Bool.and_false]; rfl)
              have heq := fun W => run_eq77 zE zE W
              rw [decide_eq_true rfl] at heq
              dsimp only [ev, zE, zS] at heq
              have hwr := fun W (hW : Below wq.heap.size wq W) => jwrBad (bx.2.2.below hW) (by have := HN60.out; omega) bx.2.1 hMB.symm
              have ht1 := fun W (hW : Below wq.heap.size wq W) => jthree_bad (Mg.nil W) (px := none) rfl (Mg.nil W) (py := none) rfl (bx.2.2.below hW) bx.2.1 (by rw [← hMB, Bool.and_false])
              have ht2 := fun W (hW : Below wq.heap.size wq W) => jthree_bad (bx.2.2.below hW) bx.2.1 (Mg.nil W) (py := none) rfl (Mg.nil W) (pz := none) rfl (by rw [← hMB]; rfl)
              have hsi := fun W (hW : Below wq.heap.size wq W) => sinceZ (w := W) (t := t) (pm := p) bx.2.1
              have hgo := fun (W : World) (L Sb : Nat) (hW : Below wq.heap.size wq W) (h1 : W.cell? ⟨L, 0, none⟩ = some (.pointer p)) (h2 : L < W.heap.size) (h3 : W.heap[Sb]? = some (.cells #[.int .i64 0, .int .i64 0, .string ⟨#[]⟩, .int .i64 0, .int .i64 0] 43 (0, 0))) => goesZ (w := W) (t := t) (pm := p) (bx.2.2.below hW) bx.2.1 hMB.symm h1 h2 h3
              have hnm := fun (n : Int) W => jnum35 n W
              have HBX := hide bx
              have HBQ := hide bq
              clear bx bq hMB HM
              go_upto_region 21 with (first
                | (go_at_call 99; refine hmap.mono ?_; rintro e w2 ⟨rfl, b2⟩; have qm2 := cell_stays qm b2; have H2 := hide b2; clear b2; dsimp only)
                | (go_at_call 100; refine (hmay w2 H2.out).mono ?_; rintro e w3 ⟨rfl, b3⟩; have H3 := hide (H2.out.trans (b3.mono H2.out.size)); clear b3; dsimp only))
              obtain ⟨Zb, hZb⟩ : ∃ q, q = w3.heap.size := ⟨_, rfl⟩
              obtain ⟨W4, hW4⟩ : ∃ q, q = w3.alloc (.cells #[.pointer none] 27) := ⟨_, rfl⟩
              have cZ : W4.cell? ⟨Zb, 0, none⟩ = some (.pointer none) := by rw [hW4, hZb]; exact (cell_of_row _ _ 0 _ 27 (0, 0) (heap_alloc_new w3 _)).trans rfl
              have b34 : Below w3.heap.size w3 W4 := by rw [hW4]; exact (Below.refl _ w3).alloc (Nat.le_refl _) _
              have HB : Hid (Below wq.heap.size wq W4) := hide (H3.out.trans (b34.mono H3.out.size))
              have cM : W4.cell? ⟨w.heap.size, 0, none⟩ = some (.pointer p) := cell_stays qm HB.out
              rw [← hW4, ← hZb]
              clear hW4 hZb b34 H2 H3 qm qm2 hmap hmay z1 d1
              have tk : True := trivial
              go_upto_region 25 with (first
                | (go_at_call 97; refine (hel _ HB.out).mono ?_; rintro e w5 ⟨a5, n5, c5, rfl, b5⟩; replace HB := hide (HB.out.trans (b5.mono HB.out.size)); replace cM := cell_stays cM b5; replace cZ := cell_stays cZ b5; clear b5; dsimp only)
                | (go_at_call 101; refine (htx _ HB.out).mono ?_; rintro e w6 ⟨a6, n6, c6, rfl, b6⟩; replace HB := hide (HB.out.trans (b6.mono HB.out.size)); replace cM := cell_stays cM b6; replace cZ := cell_stays cZ b6; clear b6; dsimp only)
                | (go_at_call 96; clear tk; refine (ht1 _ HB.out).mono ?_; rintro e w7 ⟨rfl, b7⟩; replace b7 := b7.trans (((Below.refl _ w7).alloc (Nat.le_refl _) (.cells #[.pointer none] 27)).mono b7.size); replace HB := hide (HB.out.trans (b7.mono HB.out.size)); replace cM := cell_stays cM b7; replace cZ := cell_stays cZ b7; clear b7; dsimp only)
                | (go_at_call 96; refine (ht2 _ HB.out).mono ?_; rintro e w8 ⟨rfl, b8⟩; replace b8 := b8.trans (((Below.refl _ w8).alloc (Nat.le_refl _) (.cells #[.pointer none] 27)).mono b8.size); replace HB := hide (HB.out.trans (b8.mono HB.out.size)); replace cM := cell_stays cM b8; replace cZ := cell_stays cZ b8; clear b8; dsimp only))
              obtain ⟨W5, hW5⟩ : ∃ q, q = w8.alloc (.cells #[.pointer none] 27) := ⟨_, rfl⟩
              rw [← hW5] at HB cM cZ ⊢
              clear hW5 hel htx ht1 ht2
              replace HBX := hide (HBX.out.below HB.out)
              have HLT : Hid (w.heap.size < W5.heap.size) := hide (gI HBX.out.1).1
              go_cut [20, 21, 107, 108, 109, 110, 111, 112, 113] (fun v20 v21 v107 v108 v109 v110 v111 v112 v113 wz => ∃ (Nb : Nat) (pt : Option Addr) (t' : Pm.T), v20 = .pointer (some ⟨Nb, 0, none⟩) ∧ v21 = .int .i64 2 ∧ Hid (Boxd wz Nb pt t' ∧ t'.list = [] ∧ Below W5.heap.size W5 wz))
              case first =>
                as_aux_lemma =>
                  have hW : ∀ W', Below W5.heap.size W5 W' → Calls Tryz.prog 90 #[.agg #[.pointer p], .agg #[.int .i64 1, .int .i64 0, .string ⟨#[97]⟩, .int .i64 1, .int .i64 0], .string ⟨#[120]⟩] W' _ := fun W' hb => hwr W' (HB.out.trans (hb.mono HB.out.size))
                  clear hwr hat0 hp1 hp2 heq hsi hgo hkn hnm cM cZ
                  have qd : W5.drew.cell? ⟨w.heap.size, 0, none⟩ = some (.pointer p) := HBX.out.cell
                  have b0 : Below W5.heap.size W5 W5.drew := drew_below W5
                  refine wp_region_held_drew (S := fun w' => w'.cell? ⟨w.heap.size, 0, none⟩ = some (.pointer p)) (by kernel_rfl) qd (fun hHeld => ?_)
                  clear qd
                  obtain ⟨Wd, hWd⟩ : ∃ Wd, Wd = W5.drew := ⟨_, rfl⟩
                  rw [← hWd] at hHeld b0 ⊢
                  clear hWd
                  refine take_op (i := 0) (d := 108) (OP := Op.load 27 (Operand.tmp 3)) (T := 27) (v := ?v22) rfl rfl rfl rfl (by kernel_rfl) (by kernel_rfl) (by kernel_rfl) (fun _ _ _ h => h) (by rfl) ?h22 hHeld ?r22
                  case h22 => (intro w' hSw; (try dsimp only at hSw); go_simp <;> with_reducible rfl)
                  try simp only [Act.put, sI, sZ, sS]
                  obtain ⟨y1, ey1⟩ : ∃ q, q = Wd.alloc (.cells #[.pointer none] 27) := ⟨_, rfl⟩
                  have ry1 : y1.heap[Wd.heap.size]? = some (.cells #[.pointer none] 27 (0, 0)) := by rw [ey1]; exact heap_alloc_new Wd _
                  have by1 : Below Wd.heap.size Wd y1 := by rw [ey1]; exact (Below.refl _ Wd).alloc (Nat.le_refl _) _
                  have hy1 : y1.cell? ⟨w.heap.size, 0, none⟩ = some (.pointer p) := cell_stays hHeld by1
                  have bby1 := b0.trans (by1.mono b0.size)
                  refine call_turn_op (i := 1) (di := 109) (OPi := Op.call { callee := Callee.value (Operand.func 102), args := #[Operand.const (Value.int IntKind.i64 1), Operand.const (Value.string { data := #[] })], argTypes := #[2, 9] }) (Ti := 53) (j := 7) (dj := 20) (OPj := Op.alloc 27) (Tj := 0) (f := 102) (args := #[.int .i64 1, .string ⟨#[]⟩]) (u := .pointer (some ⟨Wd.heap.size, 0, none⟩)) (w' := y1) rfl rfl rfl rfl rfl rfl rfl rfl (by kernel_rfl) (by rfl) (by rfl) (by go_simp) (by rw [ey1]; exact exec_al27 Wd) hy1 ?_ ?_
                  · refine (jat46 1 ⟨#[]⟩ _).mono ?_
                    rintro e z1 ⟨rfl, bz1⟩
                    have hz1 : z1.cell? ⟨w.heap.size, 0, none⟩ = some (.pointer p) := cell_stays hHeld bz1
                    have bbz1 := b0.trans (bz1.mono b0.size)
                    refine ⟨_, rfl, hz1, ?_⟩
                    try simp only [Act.put, sI, sZ, sS]
                    refine take_op (i := 2) (d := 110) (OP := Op.field 53 (Operand.tmp 109) 0) (T := 43) (v := .agg #[.int .i64 1, .int .i64 0, .string ⟨#[97]⟩, .int .i64 1, .int .i64 0]) rfl rfl rfl rfl (by kernel_rfl) (by kernel_rfl) (by kernel_rfl) (fun _ _ _ h => h) (by rfl) ?h23 hz1 ?r23
                    case h23 => (intro w' hSw; exact exec_fld53 rfl)
                    try simp only [Act.put, sI, sZ, sS]
                    obtain ⟨y2, ey2⟩ : ∃ q, q = z1.alloc (.cells #[.pointer none] 27) := ⟨_, rfl⟩
                    have ry2 : y2.heap[z1.heap.size]? = some (.cells #[.pointer none] 27 (0, 0)) := by rw [ey2]; exact heap_alloc_new z1 _
                    have by2 : Below z1.heap.size z1 y2 := by rw [ey2]; exact (Below.refl _ z1).alloc (Nat.le_refl _) _
                    have hy2 : y2.cell? ⟨w.heap.size, 0, none⟩ = some (.pointer p) := cell_stays hz1 by2
                    have bby2 := bbz1.trans (by2.mono bbz1.size)
                    refine call_turn_op (i := 3) (di := 111) (OPi := Op.call { callee := Callee.value (Operand.func 90), args := #[Operand.tmp 108, Operand.tmp 110, Operand.const (Value.string { data := #[120] })], argTypes := #[27, 43, 9] }) (Ti := 29) (j := 7) (dj := 20) (OPj := Op.alloc 27) (Tj := 0) (f := 90) (args := #[.agg #[.pointer p], .agg #[.int .i64 1, .int .i64 0, .string ⟨#[97]⟩, .int .i64 1, .int .i64 0], .string ⟨#[120]⟩]) (u := .pointer (some ⟨z1.heap.size, 0, none⟩)) (w' := y2) rfl rfl rfl rfl rfl rfl rfl rfl (by kernel_rfl) (by rfl) (by rfl) (by go_simp) (by rw [ey2]; exact exec_al27 z1) hy2 ?_ ?_
                    · refine (hW  _ bbz1).mono ?_
                      rintro e z2 ⟨t', pt, hpt, rfl, mg', hl', bz2⟩
                      have hz2 : z2.cell? ⟨w.heap.size, 0, none⟩ = some (.pointer p) := cell_stays hz1 bz2
                      have bbz2 := bbz1.trans (bz2.mono bbz1.size)
                      refine ⟨_, rfl, hz2, ?_⟩
                      try simp only [Act.put, sI, sZ, sS]
                      refine take_op (i := 4) (d := 107) (OP := Op.move (Operand.tmp 111)) (T := 29) (v := ?v24) rfl rfl rfl rfl (by kernel_rfl) (by kernel_rfl) (by kernel_rfl) (fun _ _ _ h => h) (by rfl) ?h24 hz2 ?r24
                      case h24 => (intro w' hSw; (try dsimp only at hSw); go_simp <;> with_reducible rfl)
                      try simp only [Act.put, sI, sZ, sS]
                      refine take_op (i := 5) (d := 112) (OP := Op.extract (Operand.tmp 107) 0) (T := 27) (v := ?v25) rfl rfl rfl rfl (by kernel_rfl) (by kernel_rfl) (by kernel_rfl) (fun _ _ _ h => h) (by rfl) ?h25 hz2 ?r25
                      case h25 => (intro w' hSw; (try dsimp only at hSw); go_simp <;> with_reducible rfl)
                      try simp only [Act.put, sI, sZ, sS]
                      refine take_op (i := 6) (d := 113) (OP := Op.extract (Operand.tmp 107) 1) (T := 28) (v := ?v26) rfl rfl rfl rfl (by kernel_rfl) (by kernel_rfl) (by kernel_rfl) (fun _ _ _ h => h) (by rfl) ?h26 hz2 ?r26
                      case h26 => (intro w' hSw; (try dsimp only at hSw); go_simp <;> with_reducible rfl)
                      try simp only [Act.put, sI, sZ, sS]
                      obtain ⟨z3, ez3⟩ : ∃ q, q = z2.alloc (.cells #[.pointer none] 27) := ⟨_, rfl⟩
                      have rz3 : z3.heap[z2.heap.size]? = some (.cells #[.pointer none] 27 (0, 0)) := by rw [ez3]; exact heap_alloc_new z2 _
                      have bz3 : Below z2.heap.size z2 z3 := by rw [ez3]; exact (Below.refl _ z2).alloc (Nat.le_refl _) _
                      have hz3 : z3.cell? ⟨w.heap.size, 0, none⟩ = some (.pointer p) := cell_stays hz2 bz3
                      have bbz3 := bbz2.trans (bz3.mono bbz2.size)
                      refine turn_op (i := 7) (d := 20) (OP := Op.alloc 27) (T := 0) (v := .pointer (some ⟨z2.heap.size, 0, none⟩)) (w' := z3) rfl rfl rfl rfl (by kernel_rfl) (by rfl) (by rw [ez3]; exact exec_al27 z2) hz3 ?_
                      try simp only [Act.put, sI, sZ, sS]
                      obtain ⟨u9, o9⟩ := set_one (i := 0) (.pointer pt) rz3
                      have hM9 : (z3.setCell ⟨z2.heap.size, 0, none⟩ (.pointer pt)).cell? ⟨w.heap.size, 0, none⟩ = some (.pointer p) := o9.cell hz3 (by simp only; have := HLT.out; have := bbz2.size; omega)
                      refine skip_op (i := 8) (OP := Op.store 27 (Operand.tmp 20) (Operand.tmp 112)) (T := 0) (w' := z3.setCell ⟨z2.heap.size, 0, none⟩ (.pointer pt)) rfl rfl rfl rfl (by kernel_rfl) (by rfl) (exec_st27 rfl rfl ((cell_of_row _ _ 0 _ 27 (0, 0) rz3).trans rfl) (frozen_of_row _ _ 0 _ 27 rz3)) ⟨hM9, ?_⟩
                      try simp only [Act.put, sI, sZ, sS]
                      refine take_op (i := 9) (d := 21) (OP := Op.assign (Operand.tmp 113)) (T := 28) (v := ?v27) rfl rfl rfl rfl (by kernel_rfl) (by kernel_rfl) (by kernel_rfl) (fun _ _ _ h => h) (by rfl) ?h27 hM9 ?r27
                      case h27 => (intro w' hSw; (try dsimp only at hSw); go_simp <;> with_reducible rfl)
                      try simp only [Act.put, sI, sZ, sS]
                      refine wpAnyH_done (by kernel_rfl) ?_ _
                      have mg9 := (mg'.below bz3).aside rz3 o9
                      have bl9 := Below.only bbz3 o9 bbz3.size (fun k e => by have e' : k = z2.heap.size := e; have := bbz2.size; omega)
                      have HE9 := hide (And.intro u9 (And.intro hpt (And.intro mg9 (And.intro hl' bl9))))
                      clear mg9 bl9 hpt hl' u9 o9
                      go_wp2
                      go_meet
                      obtain ⟨u9, hpt, mg9, hl', bl9⟩ := HE9.out
                      exact ⟨z2.heap.size, pt, t', rfl, rfl, hide ⟨⟨by simpa using u9, hpt, mg9⟩, hl', bl9⟩⟩
                    · try simp only [Act.put, sI, sZ, sS]
                      refine call_op (i := 3) (d := 111) (OP := Op.call { callee := Callee.value (Operand.func 90), args := #[Operand.tmp 108, Operand.tmp 110, Operand.const (Value.string { data := #[120] })], argTypes := #[27, 43, 9] }) (T := 29) (f := 90) (args := #[.agg #[.pointer p], .agg #[.int .i64 1, .int .i64 0, .string ⟨#[97]⟩, .int .i64 1, .int .i64 0], .string ⟨#[120]⟩]) rfl rfl rfl rfl (by kernel_rfl) (by rfl) (by go_simp) ?_
                      refine (hW  _ bby2).mono ?_
                      rintro e z4 ⟨t', pt, hpt, rfl, mg', hl', bz4⟩
                      have hz4 : z4.cell? ⟨w.heap.size, 0, none⟩ = some (.pointer p) := cell_stays hy2 bz4
                      have bbz4 := bby2.trans (bz4.mono bby2.size)
                      refine ⟨_, rfl, hz4, ?_⟩
                      try simp only [Act.put, sI, sZ, sS]
                      have rz4 := (bz4.block _ (gI ry2).1).trans ry2
                      refine take_op (i := 4) (d := 107) (OP := Op.move (Operand.tmp 111)) (T := 29) (v := ?v28) rfl rfl rfl rfl (by kernel_rfl) (by kernel_rfl) (by kernel_rfl) (fun _ _ _ h => h) (by rfl) ?h28 hz4 ?r28
                      case h28 => (intro w' hSw; (try dsimp only at hSw); go_simp <;> with_reducible rfl)
                      try simp only [Act.put, sI, sZ, sS]
                      refine take_op (i := 5) (d := 112) (OP := Op.extract (Operand.tmp 107) 0) (T := 27) (v := ?v29) rfl rfl rfl rfl (by kernel_rfl) (by kernel_rfl) (by kernel_rfl) (fun _ _ _ h => h) (by rfl) ?h29 hz4 ?r29
                      case h29 => (intro w' hSw; (try dsimp only at hSw); go_simp <;> with_reducible rfl)
                      try simp only [Act.put, sI, sZ, sS]
                      refine take_op (i := 6) (d := 113) (OP := Op.extract (Operand.tmp 107) 1) (T := 28) (v := ?v30) rfl rfl rfl rfl (by kernel_rfl) (by kernel_rfl) (by kernel_rfl) (fun _ _ _ h => h) (by rfl) ?h30 hz4 ?r30
                      case h30 => (intro w' hSw; (try dsimp only at hSw); go_simp <;> with_reducible rfl)
                      try simp only [Act.put, sI, sZ, sS]
                      obtain ⟨u9, o9⟩ := set_one (i := 0) (.pointer pt) rz4
                      have hM9 : (z4.setCell ⟨z1.heap.size, 0, none⟩ (.pointer pt)).cell? ⟨w.heap.size, 0, none⟩ = some (.pointer p) := o9.cell hz4 (by simp only; have := HLT.out; have := bbz1.size; omega)
                      refine skip_op (i := 8) (OP := Op.store 27 (Operand.tmp 20) (Operand.tmp 112)) (T := 0) (w' := z4.setCell ⟨z1.heap.size, 0, none⟩ (.pointer pt)) rfl rfl rfl rfl (by kernel_rfl) (by rfl) (exec_st27 rfl rfl ((cell_of_row _ _ 0 _ 27 (0, 0) rz4).trans rfl) (frozen_of_row _ _ 0 _ 27 rz4)) ⟨hM9, ?_⟩
                      try simp only [Act.put, sI, sZ, sS]
                      refine take_op (i := 9) (d := 21) (OP := Op.assign (Operand.tmp 113)) (T := 28) (v := ?v31) rfl rfl rfl rfl (by kernel_rfl) (by kernel_rfl) (by kernel_rfl) (fun _ _ _ h => h) (by rfl) ?h31 hM9 ?r31
                      case h31 => (intro w' hSw; (try dsimp only at hSw); go_simp <;> with_reducible rfl)
                      try simp only [Act.put, sI, sZ, sS]
                      refine wpAnyH_done (by kernel_rfl) ?_ _
                      have mg9 := mg'.aside rz4 o9
                      have bl9 := Below.only bbz4 o9 bbz4.size (fun k e => by have e' : k = z1.heap.size := e; have := bbz1.size; omega)
                      have HE9 := hide (And.intro u9 (And.intro hpt (And.intro mg9 (And.intro hl' bl9))))
                      clear mg9 bl9 hpt hl' u9 o9
                      go_wp2
                      go_meet
                      obtain ⟨u9, hpt, mg9, hl', bl9⟩ := HE9.out
                      exact ⟨z1.heap.size, pt, t', rfl, rfl, hide ⟨⟨by simpa using u9, hpt, mg9⟩, hl', bl9⟩⟩
                  · try simp only [Act.put, sI, sZ, sS]
                    refine call_op (i := 1) (d := 109) (OP := Op.call { callee := Callee.value (Operand.func 102), args := #[Operand.const (Value.int IntKind.i64 1), Operand.const (Value.string { data := #[] })], argTypes := #[2, 9] }) (T := 53) (f := 102) (args := #[.int .i64 1, .string ⟨#[]⟩]) rfl rfl rfl rfl (by kernel_rfl) (by rfl) (by go_simp) ?_
                    refine (jat46 1 ⟨#[]⟩ _).mono ?_
                    rintro e z5 ⟨rfl, bz5⟩
                    have hz5 : z5.cell? ⟨w.heap.size, 0, none⟩ = some (.pointer p) := cell_stays hy1 bz5
                    have bbz5 := bby1.trans (bz5.mono bby1.size)
                    refine ⟨_, rfl, hz5, ?_⟩
                    try simp only [Act.put, sI, sZ, sS]
                    refine take_op (i := 2) (d := 110) (OP := Op.field 53 (Operand.tmp 109) 0) (T := 43) (v := .agg #[.int .i64 1, .int .i64 0, .string ⟨#[97]⟩, .int .i64 1, .int .i64 0]) rfl rfl rfl rfl (by kernel_rfl) (by kernel_rfl) (by kernel_rfl) (fun _ _ _ h => h) (by rfl) ?h32 hz5 ?r32
                    case h32 => (intro w' hSw; exact exec_fld53 rfl)
                    try simp only [Act.put, sI, sZ, sS]
                    refine call_op (i := 3) (d := 111) (OP := Op.call { callee := Callee.value (Operand.func 90), args := #[Operand.tmp 108, Operand.tmp 110, Operand.const (Value.string { data := #[120] })], argTypes := #[27, 43, 9] }) (T := 29) (f := 90) (args := #[.agg #[.pointer p], .agg #[.int .i64 1, .int .i64 0, .string ⟨#[97]⟩, .int .i64 1, .int .i64 0], .string ⟨#[120]⟩]) rfl rfl rfl rfl (by kernel_rfl) (by rfl) (by go_simp) ?_
                    refine (hW  _ bbz5).mono ?_
                    rintro e z6 ⟨t', pt, hpt, rfl, mg', hl', bz6⟩
                    have hz6 : z6.cell? ⟨w.heap.size, 0, none⟩ = some (.pointer p) := cell_stays hz5 bz6
                    have bbz6 := bbz5.trans (bz6.mono bbz5.size)
                    refine ⟨_, rfl, hz6, ?_⟩
                    try simp only [Act.put, sI, sZ, sS]
                    have rz6 := (bz6.block _ (gI ((bz5.block _ (gI ry1).1).trans ry1)).1).trans ((bz5.block _ (gI ry1).1).trans ry1)
                    refine take_op (i := 4) (d := 107) (OP := Op.move (Operand.tmp 111)) (T := 29) (v := ?v33) rfl rfl rfl rfl (by kernel_rfl) (by kernel_rfl) (by kernel_rfl) (fun _ _ _ h => h) (by rfl) ?h33 hz6 ?r33
                    case h33 => (intro w' hSw; (try dsimp only at hSw); go_simp <;> with_reducible rfl)
                    try simp only [Act.put, sI, sZ, sS]
                    refine take_op (i := 5) (d := 112) (OP := Op.extract (Operand.tmp 107) 0) (T := 27) (v := ?v34) rfl rfl rfl rfl (by kernel_rfl) (by kernel_rfl) (by kernel_rfl) (fun _ _ _ h => h) (by rfl) ?h34 hz6 ?r34
                    case h34 => (intro w' hSw; (try dsimp only at hSw); go_simp <;> with_reducible rfl)
                    try simp only [Act.put, sI, sZ, sS]
                    refine take_op (i := 6) (d := 113) (OP := Op.extract (Operand.tmp 107) 1) (T := 28) (v := ?v35) rfl rfl rfl rfl (by kernel_rfl) (by kernel_rfl) (by kernel_rfl) (fun _ _ _ h => h) (by rfl) ?h35 hz6 ?r35
                    case h35 => (intro w' hSw; (try dsimp only at hSw); go_simp <;> with_reducible rfl)
                    try simp only [Act.put, sI, sZ, sS]
                    obtain ⟨u9, o9⟩ := set_one (i := 0) (.pointer pt) rz6
                    have hM9 : (z6.setCell ⟨Wd.heap.size, 0, none⟩ (.pointer pt)).cell? ⟨w.heap.size, 0, none⟩ = some (.pointer p) := o9.cell hz6 (by simp only; have := HLT.out; have := b0.size; omega)
                    refine skip_op (i := 8) (OP := Op.store 27 (Operand.tmp 20) (Operand.tmp 112)) (T := 0) (w' := z6.setCell ⟨Wd.heap.size, 0, none⟩ (.pointer pt)) rfl rfl rfl rfl (by kernel_rfl) (by rfl) (exec_st27 rfl rfl ((cell_of_row _ _ 0 _ 27 (0, 0) rz6).trans rfl) (frozen_of_row _ _ 0 _ 27 rz6)) ⟨hM9, ?_⟩
                    try simp only [Act.put, sI, sZ, sS]
                    refine take_op (i := 9) (d := 21) (OP := Op.assign (Operand.tmp 113)) (T := 28) (v := ?v36) rfl rfl rfl rfl (by kernel_rfl) (by kernel_rfl) (by kernel_rfl) (fun _ _ _ h => h) (by rfl) ?h36 hM9 ?r36
                    case h36 => (intro w' hSw; (try dsimp only at hSw); go_simp <;> with_reducible rfl)
                    try simp only [Act.put, sI, sZ, sS]
                    refine wpAnyH_done (by kernel_rfl) ?_ _
                    have mg9 := mg'.aside rz6 o9
                    have bl9 := Below.only bbz6 o9 bbz6.size (fun k e => by have e' : k = Wd.heap.size := e; have := b0.size; omega)
                    have HE9 := hide (And.intro u9 (And.intro hpt (And.intro mg9 (And.intro hl' bl9))))
                    clear mg9 bl9 hpt hl' u9 o9
                    go_wp2
                    go_meet
                    obtain ⟨u9, hpt, mg9, hl', bl9⟩ := HE9.out
                    exact ⟨Wd.heap.size, pt, t', rfl, rfl, hide ⟨⟨by simpa using u9, hpt, mg9⟩, hl', bl9⟩⟩
              case rest =>
                obtain ⟨_, _, _, rfl, rfl, HQ⟩ := hcut
                have b5c := HQ.out.2.2
                replace HB := hide (HB.out.trans (b5c.mono HB.out.size)); replace cM := cell_stays cM b5c; replace cZ := cell_stays cZ b5c
                clear b5c HLT HQ hwr
                go_upto_region 27 with (go_at_call 103; refine (hat0 _ HB.out).mono ?_; rintro e w9 ⟨rfl, b9⟩; replace HB := hide (HB.out.trans (b9.mono HB.out.size)); replace cM := cell_stays cM b9; replace cZ := cell_stays cZ b9; clear b9; dsimp only)
                obtain ⟨Xb, hXb⟩ : ∃ q, q = w9.heap.size := ⟨_, rfl⟩
                obtain ⟨W6, hW6⟩ : ∃ q, q = w9.alloc (.cells #[.int .i64 0, .int .i64 0, .string ⟨#[]⟩, .int .i64 0, .int .i64 0, .string ⟨#[]⟩] 53) := ⟨_, rfl⟩
                have b96 : Below w9.heap.size w9 W6 := by rw [hW6]; exact (Below.refl _ w9).alloc (Nat.le_refl _) _
                have n0 : W6.heap[Xb]? = some (.cells #[.int .i64 0, .int .i64 0, .string ⟨#[]⟩, .int .i64 0, .int .i64 0, .string ⟨#[]⟩] 53 (0, 0)) := by rw [hW6, hXb]; exact heap_alloc_new w9 _
                obtain ⟨xa0, xa1, xa2, xa3, xa4, xa5⟩ := cells_of_enc n0
                replace HB := hide (HB.out.trans (b96.mono HB.out.size)); replace cM := cell_stays cM b96; replace cZ := cell_stays cZ b96
                rw [← hW6, ← hXb]
                clear hXb hW6 n0 b96 hat0
                have tk2 : True := trivial
                go_wp2_with (first
                  | (go_at_call 87; refine (hnm _ _).mono ?_; rintro e w12 ⟨rfl, rfl⟩; dsimp only)
                  | (go_at_call 93; clear tk2; refine (hp1 _ HB.out).mono ?_; rintro e w13 ⟨rfl, b13⟩; replace HB := hide (HB.out.trans (b13.mono HB.out.size)); replace cM := cell_stays cM b13; replace cZ := cell_stays cZ b13; clear b13 xa0 xa1 xa2 xa3 xa4 xa5 heq; dsimp only)
                  | (go_at_call 93; refine (hp2 _ HB.out).mono ?_; rintro e w14 ⟨rfl, b14⟩; replace HB := hide (HB.out.trans (b14.mono HB.out.size)); replace cM := cell_stays cM b14; replace cZ := cell_stays cZ b14; clear b14; dsimp only)
                  | (go_at_call 105; refine (hsi _ HB.out).mono ?_; rintro e w15 ⟨L, Sb, rfl, ⟨hL, hLt, hSb⟩, b15⟩; replace HB := hide (HB.out.trans (b15.mono HB.out.size)); replace cM := cell_stays cM b15; replace cZ := cell_stays cZ b15; have hgo1 := hgo _ _ _ HB.out hL hLt hSb; clear b15 hL hLt hSb; dsimp only)
                  | (go_at_call 104; refine hgo1.mono ?_; rintro e w16 ⟨rfl, b16⟩; replace HB := hide (HB.out.trans (b16.mono HB.out.size)); replace cM := cell_stays cM b16; replace cZ := cell_stays cZ b16; clear b16; dsimp only)
                  | (go_at_call 84; refine (hkn _).mono ?_; rintro e w17 ⟨rfl, b17⟩; replace HB := hide (HB.out.trans (b17.mono HB.out.size)); replace cM := cell_stays cM b17; replace cZ := cell_stays cZ b17; clear b17; dsimp only))
                go_ret
                exact ⟨rfl, HBQ.out.trans (HB.out.mono HBQ.out.size)⟩
end Go.Proofs.YtkkpdgfllnbigaaGreat.Jo
