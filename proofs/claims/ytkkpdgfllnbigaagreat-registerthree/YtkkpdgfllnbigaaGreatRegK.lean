/-
  register: the chapter's rows (known 32).
-/
import Derived.Test.YtkkpdgfllnbigaaGreatMg20
import Derived.Deep.DeepCutAuto
import Derived.Deep.CutBlock
namespace Go.Proofs.YtkkpdgfllnbigaaGreat
open Go.RowKit Go.Shelf
set_option linter.unusedSimpArgs false
attribute [local go_sem] Oper.semAt_some

theorem fld53 (a b c d e f : Value) (w : World) : (Instr.field 53 (.agg #[a, b, c, d, e, f]) 0).run Tryz.prog w = .ok (.agg #[a, b, c, d, e]) w := by
  kernel_rfl
theorem exec_fld53 {ev' : Operand → Value} {x : Operand} {T : TypeId} {w : World} {a b c d e f : Value} (hx : ev' x = .agg #[a, b, c, d, e, f]) : (execOp ev' { dst := none, op := .field 53 x 0, type := T, pos := "", after := #[], guard := none }).run Tryz.prog w = .ok (.value (.agg #[a, b, c, d, e])) w := by
  simp [execOp, hx, fld53, Result.andThen]
def abL : List Kv := [kvE (atS 1, tA), kvE (atS 2, tB)]
theorem ofAB (b : Nat) (W : World) (h : W.heap[b]? = some (.cells (flatE [(atS 2, tB), (atS 1, tA)]).toArray 53 (0, 0))) : Calls Tryz.prog 41 #[.slice (some ⟨b, 0, none⟩) 2 2] W fun e w' => ∃ t pm, e = .returned (.tuple #[.agg #[.pointer pm], .int .i64 0]) ∧ t.ptr = .pointer pm ∧ Mg w' t ∧ t.list = abL ∧ Below W.heap.size W w' := (ofP (c := 2) _ (two_re h) (by decide)).mono fun e w' hh => by
  obtain ⟨t, pm, hp, he, hm, h1, -, hb⟩ := hh
  rw [good_ba, if_pos rfl] at he
  exact ⟨t, pm, he, hp, hm, list_ab (h1 good_ba) hm.srt, hb⟩
theorem of11 (b : Nat) (W : World) (h : W.heap[b]? = some (.cells (flatE [(atS 1, tA), (atS 1, tB)]).toArray 53 (0, 0))) : Calls Tryz.prog 41 #[.slice (some ⟨b, 0, none⟩) 2 2] W fun e w' => e = .returned (.tuple #[.agg #[.pointer none], .int .i64 2]) ∧ Below W.heap.size W w' := (ofP (c := 2) _ (two_re h) (by decide)).mono fun e w' hh => by
  obtain ⟨t, pm, hp, he, hm, -, h2, hb⟩ := hh
  rw [good_11, if_neg (by decide)] at he
  have := h2 good_11
  subst this
  cases hp
  exact ⟨he, hb⟩
theorem wr3 {w : World} {t : Pm.T} {pm : Option Addr} (h : Mg w t) (hp : t.ptr = .pointer pm) (hl : t.list = abL) : Calls Tryz.prog 46 #[.agg #[.pointer pm], .agg #[.int .i64 3, .int .i64 0, .string ⟨#[97]⟩, .int .i64 1, .int .i64 0], .string ⟨#[99]⟩] w fun e w' => ∃ t' pt, t'.ptr = .pointer pt ∧ e = .returned (.tuple #[.agg #[.pointer pt], .int .i64 0]) ∧ Mg w' t' ∧ t'.list = [(keyT (atS 3), tC)] ∧ Below w.heap.size w w' := (writeP (atS 3) tC h hp).mono fun e w' hh => by
  obtain ⟨t', pt, hpt, he, hm, hl', hb⟩ := hh
  rw [hl, abL, wr_3, if_pos rfl] at he hl'
  exact ⟨t', pt, hpt, he, hm, hl', hb⟩
theorem wr2 {w : World} {t : Pm.T} {pm : Option Addr} (h : Mg w t) (hp : t.ptr = .pointer pm) (hl : t.list = abL) : Calls Tryz.prog 46 #[.agg #[.pointer pm], .agg #[.int .i64 2, .int .i64 0, .string ⟨#[97]⟩, .int .i64 1, .int .i64 0], .string ⟨#[99]⟩] w fun e w' => ∃ t' pt, t'.ptr = .pointer pt ∧ e = .returned (.tuple #[.agg #[.pointer pt], .int .i64 2]) ∧ Mg w' t' ∧ t'.list = [] ∧ Below w.heap.size w w' := (writeP (atS 2) tC h hp).mono fun e w' hh => by
  obtain ⟨t', pt, hpt, he, hm, hl', hb⟩ := hh
  rw [hl, abL, wr_2, if_neg (by decide)] at he hl'
  exact ⟨t', pt, hpt, he, hm, hl', hb⟩
theorem txAB {w : World} {t : Pm.T} {pm : Option Addr} (h : Mg w t) (hp : t.ptr = .pointer pm) (hl : t.list = abL) : Calls Tryz.prog 52 #[.agg #[.pointer pm]] w fun e w' => ∃ ao c, e = .returned (.tuple #[.slice ao 2 c, .int .i64 0]) ∧ Rs w' ao [tA, tB] ∧ Below w.heap.size w w' := (textsP h hp).mono fun e w' hh => by
  obtain ⟨ao, c, he, hO, hb⟩ := hh
  rw [hl, abL, els_ab] at he hO
  rw [may_ab, if_pos rfl] at he
  exact ⟨ao, c, he, hO.rs, hb⟩
theorem onAB {w : World} {t : Pm.T} {pm : Option Addr} (h : Mg w t) (hp : t.ptr = .pointer pm) (hl : t.list = abL) : Calls Tryz.prog 55 #[.agg #[.pointer pm]] w fun e w' => e = .returned (.tuple #[.string ⟨#[]⟩, .bool false]) ∧ Below w.heap.size w w' := (oneP h hp).mono fun e w' hh => by
  rw [hl, abL, one_ab] at hh
  exact hh
theorem on3 {w : World} {t : Pm.T} {pm : Option Addr} (h : Mg w t) (hp : t.ptr = .pointer pm) (hl : t.list = [(keyT (atS 3), tC)]) : Calls Tryz.prog 55 #[.agg #[.pointer pm]] w fun e w' => e = .returned (.tuple #[.string ⟨#[99]⟩, .bool true]) ∧ Below w.heap.size w w' := (oneP h hp).mono fun e w' hh => by
  rw [hl, one_3] at hh
  exact hh
theorem sameAB {w : World} {ao : Option Addr} {c b : Nat} (h : Rs w ao [tA, tB]) (hb : w.heap[b]? = some (.cells #[.string tA, .string tB] 9 (0, 0))) : Calls Tryz.prog 108 #[.slice ao 2 c, .slice (some ⟨b, 0, none⟩) 2 2] w fun e w' => e = .returned (.bool true) ∧ Below w.heap.size w w' := (sameTexts_any (c := c) (d := 2) (l := [tA, tB]) (m := [tA, tB]) h ⟨fun e => (by cases e), fun a ha j s hj => by
  cases ha
  rw [add_lit, cell_of_row _ _ (0 + j) _ 9 (0, 0) hb, Nat.zero_add]
  match j, hj with
  | 0, hj => simp at hj; subst hj; rfl
  | 1, hj => simp at hj; subst hj; rfl
  | j + 2, hj => simp at hj⟩ (by decide) (by decide)).mono fun e w' hh => by
  obtain ⟨he, n, hw⟩ := hh
  exact ⟨by rw [he]; simp, by rw [hw]; exact below_drew w n⟩
set_option maxHeartbeats 8000000 in
set_option maxRecDepth 100000 in
theorem known32 (w : World) : Calls Tryz.prog 40 #[] w fun e w' => e = .returned (.bool true) ∧ Below w.heap.size w w' := by
  have hat := fun (g : Int) (x : ByteArray) W => at46 g x W
  have hnm := fun (n : Int) W => num35 n W
  have HB : Hid (Below w.heap.size w w) := hide (Below.refl _ _)
  go_enter Tryz.func40, Tryz.ntmps40
  go_upto_region 2 with (first
    | (go_at_call 54; refine (hat _ _ _).mono ?_; rintro e w1 ⟨rfl, b1⟩; replace HB := hide (HB.out.trans (b1.mono HB.out.size)); clear b1; dsimp only)
    | (go_at_call 41; refine (ofAB w1.heap.size _ (heap_alloc_new w1 _)).mono ?_; rintro e w3 ⟨t, pm, rfl, hpm, mg, hl, b3⟩; replace HB := hide (HB.out.trans (((((Below.refl _ w1).alloc (Nat.le_refl _) _).trans (b3.mono (by simp))).mono HB.out.size))); have H3 := hide (And.intro hpm (And.intro mg hl)); clear b3 hpm mg hl; dsimp only))
  obtain ⟨hpm, mg, hl⟩ := H3.out
  obtain ⟨Mb, hMb⟩ : ∃ q, q = w3.heap.size := ⟨_, rfl⟩
  obtain ⟨W1, hW1⟩ : ∃ q, q = w3.alloc (.cells #[.pointer pm] 27) := ⟨_, rfl⟩
  have b31 : Below w3.heap.size w3 W1 := by rw [hW1]; exact (Below.refl _ w3).alloc (Nat.le_refl _) _
  have BX : Boxd W1 Mb pm t := ⟨by rw [hW1, hMb]; exact heap_alloc_new w3 _, hpm, mg.below b31⟩
  replace HB := hide (HB.out.trans (b31.mono HB.out.size))
  rw [← hW1, ← hMb]
  clear hMb hW1 b31 mg H3
  have cM := BX.cell
  have htx := txAB BX.2.2 hpm hl
  have HBX := hide BX
  have HL := hide hl
  have HPM := hide hpm
  clear BX hl hpm
  go_upto_region 4 with (first
    | (go_at_call 52; refine htx.mono ?_; rintro e w4 ⟨ao, cp, rfl, hrs, b4⟩; replace HB := hide (HB.out.trans (b4.mono HB.out.size)); replace HBX := hide (HBX.out.below b4); replace cM := HBX.out.cell; have HRS := hide hrs; have hon := onAB HBX.out.2.2 HPM.out HL.out; clear b4 hrs; dsimp only)
    | (go_at_call 55; refine hon.mono ?_; rintro e w5 ⟨rfl, b5⟩; replace HB := hide (HB.out.trans (b5.mono HB.out.size)); replace HBX := hide (HBX.out.below b5); replace cM := HBX.out.cell; replace HRS := hide (HRS.out.below b5); clear b5; dsimp only))
  have HLT : Hid (Mb < w5.heap.size) := hide (Array.getElem?_eq_some_iff.1 HBX.out.1).1
  clear htx hon
  go_cut [7, 8, 32, 33, 34, 35, 36, 37, 38] (fun v7 v8 v32 v33 v34 v35 v36 v37 v38 wq => ∃ (Nb : Nat) (pt : Option Addr) (t' : Pm.T), v7 = .pointer (some ⟨Nb, 0, none⟩) ∧ v8 = .int .i64 0 ∧ Hid (Boxd wq Nb pt t' ∧ t'.list = [(keyT (atS 3), tC)] ∧ Below w5.heap.size w5 wq))
  case first =>
    as_aux_lemma =>
      have hW : ∀ W', Below w5.heap.size w5 W' → Calls Tryz.prog 46 #[.agg #[.pointer pm], .agg #[.int .i64 3, .int .i64 0, .string ⟨#[97]⟩, .int .i64 1, .int .i64 0], .string ⟨#[99]⟩] W' _ := fun W' hb => wr3 (HBX.out.2.2.below hb) HPM.out HL.out
      clear hat hnm cM
      have qd : w5.drew.cell? ⟨Mb, 0, none⟩ = some (.pointer pm) := HBX.out.cell
      have b0 : Below w5.heap.size w5 w5.drew := drew_below w5
      refine wp_region_held_drew (S := fun w' => w'.cell? ⟨Mb, 0, none⟩ = some (.pointer pm)) (by kernel_rfl) qd (fun hHeld => ?_)
      clear qd
      obtain ⟨Wd, hWd⟩ : ∃ Wd, Wd = w5.drew := ⟨_, rfl⟩
      rw [← hWd] at hHeld b0 ⊢
      clear hWd
      refine take_op (i := 0) (d := 33) (OP := Op.load 27 (Operand.tmp 1)) (T := 27) (v := ?vzz1) rfl rfl rfl rfl (by kernel_rfl) (by kernel_rfl) (by kernel_rfl) (fun _ _ _ h => h) (by rfl) ?hzz1 hHeld ?rzz1
      case hzz1 => (intro w' hSw; (try dsimp only at hSw); go_simp <;> with_reducible rfl)
      try simp only [Act.put, List.setIfInBounds_toArray, List.set_cons_zero, List.set_cons_succ]
      obtain ⟨y1, ey1⟩ : ∃ q, q = Wd.alloc (.cells #[.pointer none] 27) := ⟨_, rfl⟩
      have ry1 : y1.heap[Wd.heap.size]? = some (.cells #[.pointer none] 27 (0, 0)) := by rw [ey1]; exact heap_alloc_new Wd _
      have by1 : Below Wd.heap.size Wd y1 := by rw [ey1]; exact (Below.refl _ Wd).alloc (Nat.le_refl _) _
      have hy1 : y1.cell? ⟨Mb, 0, none⟩ = some (.pointer pm) := cell_stays hHeld by1
      have bby1 := b0.trans (by1.mono b0.size)
      refine call_turn_op (i := 1) (di := 34) (OPi := Op.call { callee := Callee.value (Operand.func 54), args := #[Operand.const (Value.int IntKind.i64 3), Operand.const (Value.string { data := #[] })], argTypes := #[2, 9] }) (Ti := 53) (j := 7) (dj := 7) (OPj := Op.alloc 27) (Tj := 0) (f := 54) (args := #[.int .i64 3, .string ⟨#[]⟩]) (u := .pointer (some ⟨Wd.heap.size, 0, none⟩)) (w' := y1) rfl rfl rfl rfl rfl rfl rfl rfl (by kernel_rfl) (by rfl) (by rfl) (by go_simp) (by rw [ey1]; exact exec_al27 Wd) hy1 ?_ ?_
      · refine (at46 3 ⟨#[]⟩ _).mono ?_
        rintro e z1 ⟨rfl, bz1⟩
        have hz1 : z1.cell? ⟨Mb, 0, none⟩ = some (.pointer pm) := cell_stays hHeld bz1
        have bbz1 := b0.trans (bz1.mono b0.size)
        refine ⟨_, rfl, hz1, ?_⟩
        try simp only [Act.put, List.setIfInBounds_toArray, List.set_cons_zero, List.set_cons_succ]
        refine take_op (i := 2) (d := 35) (OP := Op.field 53 (Operand.tmp 34) 0) (T := 43) (v := .agg #[.int .i64 3, .int .i64 0, .string ⟨#[97]⟩, .int .i64 1, .int .i64 0]) rfl rfl rfl rfl (by kernel_rfl) (by kernel_rfl) (by kernel_rfl) (fun _ _ _ h => h) (by rfl) ?hzz2 hz1 ?rzz2
        case hzz2 => (intro w' hSw; exact exec_fld53 rfl)
        try simp only [Act.put, List.setIfInBounds_toArray, List.set_cons_zero, List.set_cons_succ]
        obtain ⟨y2, ey2⟩ : ∃ q, q = z1.alloc (.cells #[.pointer none] 27) := ⟨_, rfl⟩
        have ry2 : y2.heap[z1.heap.size]? = some (.cells #[.pointer none] 27 (0, 0)) := by rw [ey2]; exact heap_alloc_new z1 _
        have by2 : Below z1.heap.size z1 y2 := by rw [ey2]; exact (Below.refl _ z1).alloc (Nat.le_refl _) _
        have hy2 : y2.cell? ⟨Mb, 0, none⟩ = some (.pointer pm) := cell_stays hz1 by2
        have bby2 := bbz1.trans (by2.mono bbz1.size)
        refine call_turn_op (i := 3) (di := 36) (OPi := Op.call { callee := Callee.value (Operand.func 46), args := #[Operand.tmp 33, Operand.tmp 35, Operand.const (Value.string { data := #[99] })], argTypes := #[27, 43, 9] }) (Ti := 29) (j := 7) (dj := 7) (OPj := Op.alloc 27) (Tj := 0) (f := 46) (args := #[.agg #[.pointer pm], .agg #[.int .i64 3, .int .i64 0, .string ⟨#[97]⟩, .int .i64 1, .int .i64 0], .string ⟨#[99]⟩]) (u := .pointer (some ⟨z1.heap.size, 0, none⟩)) (w' := y2) rfl rfl rfl rfl rfl rfl rfl rfl (by kernel_rfl) (by rfl) (by rfl) (by go_simp) (by rw [ey2]; exact exec_al27 z1) hy2 ?_ ?_
        · refine (hW  _ bbz1).mono ?_
          rintro e z2 ⟨t', pt, hpt, rfl, mg', hl', bz2⟩
          have hz2 : z2.cell? ⟨Mb, 0, none⟩ = some (.pointer pm) := cell_stays hz1 bz2
          have bbz2 := bbz1.trans (bz2.mono bbz1.size)
          refine ⟨_, rfl, hz2, ?_⟩
          try simp only [Act.put, List.setIfInBounds_toArray, List.set_cons_zero, List.set_cons_succ]
          refine take_op (i := 4) (d := 32) (OP := Op.move (Operand.tmp 36)) (T := 29) (v := ?vzz3) rfl rfl rfl rfl (by kernel_rfl) (by kernel_rfl) (by kernel_rfl) (fun _ _ _ h => h) (by rfl) ?hzz3 hz2 ?rzz3
          case hzz3 => (intro w' hSw; (try dsimp only at hSw); go_simp <;> with_reducible rfl)
          try simp only [Act.put, List.setIfInBounds_toArray, List.set_cons_zero, List.set_cons_succ]
          refine take_op (i := 5) (d := 37) (OP := Op.extract (Operand.tmp 32) 0) (T := 27) (v := ?vzz4) rfl rfl rfl rfl (by kernel_rfl) (by kernel_rfl) (by kernel_rfl) (fun _ _ _ h => h) (by rfl) ?hzz4 hz2 ?rzz4
          case hzz4 => (intro w' hSw; (try dsimp only at hSw); go_simp <;> with_reducible rfl)
          try simp only [Act.put, List.setIfInBounds_toArray, List.set_cons_zero, List.set_cons_succ]
          refine take_op (i := 6) (d := 38) (OP := Op.extract (Operand.tmp 32) 1) (T := 28) (v := ?vzz5) rfl rfl rfl rfl (by kernel_rfl) (by kernel_rfl) (by kernel_rfl) (fun _ _ _ h => h) (by rfl) ?hzz5 hz2 ?rzz5
          case hzz5 => (intro w' hSw; (try dsimp only at hSw); go_simp <;> with_reducible rfl)
          try simp only [Act.put, List.setIfInBounds_toArray, List.set_cons_zero, List.set_cons_succ]
          obtain ⟨z3, ez3⟩ : ∃ q, q = z2.alloc (.cells #[.pointer none] 27) := ⟨_, rfl⟩
          have rz3 : z3.heap[z2.heap.size]? = some (.cells #[.pointer none] 27 (0, 0)) := by rw [ez3]; exact heap_alloc_new z2 _
          have bz3 : Below z2.heap.size z2 z3 := by rw [ez3]; exact (Below.refl _ z2).alloc (Nat.le_refl _) _
          have hz3 : z3.cell? ⟨Mb, 0, none⟩ = some (.pointer pm) := cell_stays hz2 bz3
          have bbz3 := bbz2.trans (bz3.mono bbz2.size)
          refine turn_op (i := 7) (d := 7) (OP := Op.alloc 27) (T := 0) (v := .pointer (some ⟨z2.heap.size, 0, none⟩)) (w' := z3) rfl rfl rfl rfl (by kernel_rfl) (by rfl) (by rw [ez3]; exact exec_al27 z2) hz3 ?_
          try simp only [Act.put, List.setIfInBounds_toArray, List.set_cons_zero, List.set_cons_succ]
          obtain ⟨u9, o9⟩ := set_one (i := 0) (.pointer pt) rz3
          have hM9 : (z3.setCell ⟨z2.heap.size, 0, none⟩ (.pointer pt)).cell? ⟨Mb, 0, none⟩ = some (.pointer pm) := o9.cell hz3 (by simp only; have := HLT.out; have := bbz2.size; omega)
          refine skip_op (i := 8) (OP := Op.store 27 (Operand.tmp 7) (Operand.tmp 37)) (T := 0) (w' := z3.setCell ⟨z2.heap.size, 0, none⟩ (.pointer pt)) rfl rfl rfl rfl (by kernel_rfl) (by rfl) (exec_st27 rfl rfl ((cell_of_row _ _ 0 _ 27 (0, 0) rz3).trans rfl) (frozen_of_row _ _ 0 _ 27 rz3)) ⟨hM9, ?_⟩
          try simp only [Act.put, List.setIfInBounds_toArray, List.set_cons_zero, List.set_cons_succ]
          refine take_op (i := 9) (d := 8) (OP := Op.assign (Operand.tmp 38)) (T := 28) (v := ?vzz6) rfl rfl rfl rfl (by kernel_rfl) (by kernel_rfl) (by kernel_rfl) (fun _ _ _ h => h) (by rfl) ?hzz6 hM9 ?rzz6
          case hzz6 => (intro w' hSw; (try dsimp only at hSw); go_simp <;> with_reducible rfl)
          try simp only [Act.put, List.setIfInBounds_toArray, List.set_cons_zero, List.set_cons_succ]
          refine wpAnyH_done (by kernel_rfl) ?_ _
          have mg9 := (mg'.below bz3).aside rz3 o9
          have bl9 := Below.only bbz3 o9 bbz3.size (fun k e => by have e' : k = z2.heap.size := e; have := bbz2.size; omega)
          have HE9 := hide (And.intro u9 (And.intro hpt (And.intro mg9 (And.intro hl' bl9))))
          clear mg9 bl9 hpt hl' u9 o9
          go_wp2
          go_meet
          obtain ⟨u9, hpt, mg9, hl', bl9⟩ := HE9.out
          exact ⟨z2.heap.size, pt, t', rfl, rfl, hide ⟨⟨by simpa using u9, hpt, mg9⟩, hl', bl9⟩⟩
        · try simp only [Act.put, List.setIfInBounds_toArray, List.set_cons_zero, List.set_cons_succ]
          refine call_op (i := 3) (d := 36) (OP := Op.call { callee := Callee.value (Operand.func 46), args := #[Operand.tmp 33, Operand.tmp 35, Operand.const (Value.string { data := #[99] })], argTypes := #[27, 43, 9] }) (T := 29) (f := 46) (args := #[.agg #[.pointer pm], .agg #[.int .i64 3, .int .i64 0, .string ⟨#[97]⟩, .int .i64 1, .int .i64 0], .string ⟨#[99]⟩]) rfl rfl rfl rfl (by kernel_rfl) (by rfl) (by go_simp) ?_
          refine (hW  _ bby2).mono ?_
          rintro e z4 ⟨t', pt, hpt, rfl, mg', hl', bz4⟩
          have hz4 : z4.cell? ⟨Mb, 0, none⟩ = some (.pointer pm) := cell_stays hy2 bz4
          have bbz4 := bby2.trans (bz4.mono bby2.size)
          refine ⟨_, rfl, hz4, ?_⟩
          try simp only [Act.put, List.setIfInBounds_toArray, List.set_cons_zero, List.set_cons_succ]
          have rz4 := (bz4.block _ (Array.getElem?_eq_some_iff.1 ry2).1).trans ry2
          refine take_op (i := 4) (d := 32) (OP := Op.move (Operand.tmp 36)) (T := 29) (v := ?vzz7) rfl rfl rfl rfl (by kernel_rfl) (by kernel_rfl) (by kernel_rfl) (fun _ _ _ h => h) (by rfl) ?hzz7 hz4 ?rzz7
          case hzz7 => (intro w' hSw; (try dsimp only at hSw); go_simp <;> with_reducible rfl)
          try simp only [Act.put, List.setIfInBounds_toArray, List.set_cons_zero, List.set_cons_succ]
          refine take_op (i := 5) (d := 37) (OP := Op.extract (Operand.tmp 32) 0) (T := 27) (v := ?vzz8) rfl rfl rfl rfl (by kernel_rfl) (by kernel_rfl) (by kernel_rfl) (fun _ _ _ h => h) (by rfl) ?hzz8 hz4 ?rzz8
          case hzz8 => (intro w' hSw; (try dsimp only at hSw); go_simp <;> with_reducible rfl)
          try simp only [Act.put, List.setIfInBounds_toArray, List.set_cons_zero, List.set_cons_succ]
          refine take_op (i := 6) (d := 38) (OP := Op.extract (Operand.tmp 32) 1) (T := 28) (v := ?vzz9) rfl rfl rfl rfl (by kernel_rfl) (by kernel_rfl) (by kernel_rfl) (fun _ _ _ h => h) (by rfl) ?hzz9 hz4 ?rzz9
          case hzz9 => (intro w' hSw; (try dsimp only at hSw); go_simp <;> with_reducible rfl)
          try simp only [Act.put, List.setIfInBounds_toArray, List.set_cons_zero, List.set_cons_succ]
          obtain ⟨u9, o9⟩ := set_one (i := 0) (.pointer pt) rz4
          have hM9 : (z4.setCell ⟨z1.heap.size, 0, none⟩ (.pointer pt)).cell? ⟨Mb, 0, none⟩ = some (.pointer pm) := o9.cell hz4 (by simp only; have := HLT.out; have := bbz1.size; omega)
          refine skip_op (i := 8) (OP := Op.store 27 (Operand.tmp 7) (Operand.tmp 37)) (T := 0) (w' := z4.setCell ⟨z1.heap.size, 0, none⟩ (.pointer pt)) rfl rfl rfl rfl (by kernel_rfl) (by rfl) (exec_st27 rfl rfl ((cell_of_row _ _ 0 _ 27 (0, 0) rz4).trans rfl) (frozen_of_row _ _ 0 _ 27 rz4)) ⟨hM9, ?_⟩
          try simp only [Act.put, List.setIfInBounds_toArray, List.set_cons_zero, List.set_cons_succ]
          refine take_op (i := 9) (d := 8) (OP := Op.assign (Operand.tmp 38)) (T := 28) (v := ?vzz10) rfl rfl rfl rfl (by kernel_rfl) (by kernel_rfl) (by kernel_rfl) (fun _ _ _ h => h) (by rfl) ?hzz10 hM9 ?rzz10
          case hzz10 => (intro w' hSw; (try dsimp only at hSw); go_simp <;> with_reducible rfl)
          try simp only [Act.put, List.setIfInBounds_toArray, List.set_cons_zero, List.set_cons_succ]
          refine wpAnyH_done (by kernel_rfl) ?_ _
          have mg9 := mg'.aside rz4 o9
          have bl9 := Below.only bbz4 o9 bbz4.size (fun k e => by have e' : k = z1.heap.size := e; have := bbz1.size; omega)
          have HE9 := hide (And.intro u9 (And.intro hpt (And.intro mg9 (And.intro hl' bl9))))
          clear mg9 bl9 hpt hl' u9 o9
          go_wp2
          go_meet
          obtain ⟨u9, hpt, mg9, hl', bl9⟩ := HE9.out
          exact ⟨z1.heap.size, pt, t', rfl, rfl, hide ⟨⟨by simpa using u9, hpt, mg9⟩, hl', bl9⟩⟩
      · try simp only [Act.put, List.setIfInBounds_toArray, List.set_cons_zero, List.set_cons_succ]
        refine call_op (i := 1) (d := 34) (OP := Op.call { callee := Callee.value (Operand.func 54), args := #[Operand.const (Value.int IntKind.i64 3), Operand.const (Value.string { data := #[] })], argTypes := #[2, 9] }) (T := 53) (f := 54) (args := #[.int .i64 3, .string ⟨#[]⟩]) rfl rfl rfl rfl (by kernel_rfl) (by rfl) (by go_simp) ?_
        refine (at46 3 ⟨#[]⟩ _).mono ?_
        rintro e z5 ⟨rfl, bz5⟩
        have hz5 : z5.cell? ⟨Mb, 0, none⟩ = some (.pointer pm) := cell_stays hy1 bz5
        have bbz5 := bby1.trans (bz5.mono bby1.size)
        refine ⟨_, rfl, hz5, ?_⟩
        try simp only [Act.put, List.setIfInBounds_toArray, List.set_cons_zero, List.set_cons_succ]
        refine take_op (i := 2) (d := 35) (OP := Op.field 53 (Operand.tmp 34) 0) (T := 43) (v := .agg #[.int .i64 3, .int .i64 0, .string ⟨#[97]⟩, .int .i64 1, .int .i64 0]) rfl rfl rfl rfl (by kernel_rfl) (by kernel_rfl) (by kernel_rfl) (fun _ _ _ h => h) (by rfl) ?hzz11 hz5 ?rzz11
        case hzz11 => (intro w' hSw; exact exec_fld53 rfl)
        try simp only [Act.put, List.setIfInBounds_toArray, List.set_cons_zero, List.set_cons_succ]
        refine call_op (i := 3) (d := 36) (OP := Op.call { callee := Callee.value (Operand.func 46), args := #[Operand.tmp 33, Operand.tmp 35, Operand.const (Value.string { data := #[99] })], argTypes := #[27, 43, 9] }) (T := 29) (f := 46) (args := #[.agg #[.pointer pm], .agg #[.int .i64 3, .int .i64 0, .string ⟨#[97]⟩, .int .i64 1, .int .i64 0], .string ⟨#[99]⟩]) rfl rfl rfl rfl (by kernel_rfl) (by rfl) (by go_simp) ?_
        refine (hW  _ bbz5).mono ?_
        rintro e z6 ⟨t', pt, hpt, rfl, mg', hl', bz6⟩
        have hz6 : z6.cell? ⟨Mb, 0, none⟩ = some (.pointer pm) := cell_stays hz5 bz6
        have bbz6 := bbz5.trans (bz6.mono bbz5.size)
        refine ⟨_, rfl, hz6, ?_⟩
        try simp only [Act.put, List.setIfInBounds_toArray, List.set_cons_zero, List.set_cons_succ]
        have rz6 := (bz6.block _ (Array.getElem?_eq_some_iff.1 ((bz5.block _ (Array.getElem?_eq_some_iff.1 ry1).1).trans ry1)).1).trans ((bz5.block _ (Array.getElem?_eq_some_iff.1 ry1).1).trans ry1)
        refine take_op (i := 4) (d := 32) (OP := Op.move (Operand.tmp 36)) (T := 29) (v := ?vzz12) rfl rfl rfl rfl (by kernel_rfl) (by kernel_rfl) (by kernel_rfl) (fun _ _ _ h => h) (by rfl) ?hzz12 hz6 ?rzz12
        case hzz12 => (intro w' hSw; (try dsimp only at hSw); go_simp <;> with_reducible rfl)
        try simp only [Act.put, List.setIfInBounds_toArray, List.set_cons_zero, List.set_cons_succ]
        refine take_op (i := 5) (d := 37) (OP := Op.extract (Operand.tmp 32) 0) (T := 27) (v := ?vzz13) rfl rfl rfl rfl (by kernel_rfl) (by kernel_rfl) (by kernel_rfl) (fun _ _ _ h => h) (by rfl) ?hzz13 hz6 ?rzz13
        case hzz13 => (intro w' hSw; (try dsimp only at hSw); go_simp <;> with_reducible rfl)
        try simp only [Act.put, List.setIfInBounds_toArray, List.set_cons_zero, List.set_cons_succ]
        refine take_op (i := 6) (d := 38) (OP := Op.extract (Operand.tmp 32) 1) (T := 28) (v := ?vzz14) rfl rfl rfl rfl (by kernel_rfl) (by kernel_rfl) (by kernel_rfl) (fun _ _ _ h => h) (by rfl) ?hzz14 hz6 ?rzz14
        case hzz14 => (intro w' hSw; (try dsimp only at hSw); go_simp <;> with_reducible rfl)
        try simp only [Act.put, List.setIfInBounds_toArray, List.set_cons_zero, List.set_cons_succ]
        obtain ⟨u9, o9⟩ := set_one (i := 0) (.pointer pt) rz6
        have hM9 : (z6.setCell ⟨Wd.heap.size, 0, none⟩ (.pointer pt)).cell? ⟨Mb, 0, none⟩ = some (.pointer pm) := o9.cell hz6 (by simp only; have := HLT.out; have := b0.size; omega)
        refine skip_op (i := 8) (OP := Op.store 27 (Operand.tmp 7) (Operand.tmp 37)) (T := 0) (w' := z6.setCell ⟨Wd.heap.size, 0, none⟩ (.pointer pt)) rfl rfl rfl rfl (by kernel_rfl) (by rfl) (exec_st27 rfl rfl ((cell_of_row _ _ 0 _ 27 (0, 0) rz6).trans rfl) (frozen_of_row _ _ 0 _ 27 rz6)) ⟨hM9, ?_⟩
        try simp only [Act.put, List.setIfInBounds_toArray, List.set_cons_zero, List.set_cons_succ]
        refine take_op (i := 9) (d := 8) (OP := Op.assign (Operand.tmp 38)) (T := 28) (v := ?vzz15) rfl rfl rfl rfl (by kernel_rfl) (by kernel_rfl) (by kernel_rfl) (fun _ _ _ h => h) (by rfl) ?hzz15 hM9 ?rzz15
        case hzz15 => (intro w' hSw; (try dsimp only at hSw); go_simp <;> with_reducible rfl)
        try simp only [Act.put, List.setIfInBounds_toArray, List.set_cons_zero, List.set_cons_succ]
        refine wpAnyH_done (by kernel_rfl) ?_ _
        have mg9 := mg'.aside rz6 o9
        have bl9 := Below.only bbz6 o9 bbz6.size (fun k e => by have e' : k = Wd.heap.size := e; have := b0.size; omega)
        have HE9 := hide (And.intro u9 (And.intro hpt (And.intro mg9 (And.intro hl' bl9))))
        clear mg9 bl9 hpt hl' u9 o9
        go_wp2
        go_meet
        obtain ⟨u9, hpt, mg9, hl', bl9⟩ := HE9.out
        exact ⟨Wd.heap.size, pt, t', rfl, rfl, hide ⟨⟨by simpa using u9, hpt, mg9⟩, hl', bl9⟩⟩
  case rest =>
    obtain ⟨Nb, pn, tn, rfl, rfl, HQ⟩ := hcut
    have b5c := HQ.out.2.2
    replace HB := hide (HB.out.trans (b5c.mono HB.out.size)); replace HBX := hide (HBX.out.below b5c); replace HRS := hide (HRS.out.below b5c)
    have cN := HQ.out.1.cell
    have hon := on3 HQ.out.1.2.2 HQ.out.1.2.1 HQ.out.2.1
    clear cM b5c HLT HQ
    go_upto_region 7 with (first
      | (go_at_call 55; refine hon.mono ?_; rintro e w6 ⟨rfl, b6⟩; replace HB := hide (HB.out.trans (b6.mono HB.out.size)); replace HBX := hide (HBX.out.below b6); replace HRS := hide (HRS.out.below b6); clear b6; dsimp only)
      | (go_at_call 54; refine (hat _ _ _).mono ?_; rintro e w7 ⟨rfl, b7⟩; replace HB := hide (HB.out.trans (b7.mono HB.out.size)); replace HBX := hide (HBX.out.below b7); replace HRS := hide (HRS.out.below b7); clear b7; dsimp only)
      | (go_at_call 41; refine (of11 w7.heap.size _ (heap_alloc_new w7 _)).mono ?_; rintro e w8 ⟨rfl, b8⟩; have b8' := ((Below.refl _ w7).alloc (Nat.le_refl _) _).trans (b8.mono (by simp)); replace HB := hide (HB.out.trans (b8'.mono HB.out.size)); replace HBX := hide (HBX.out.below b8'); replace HRS := hide (HRS.out.below b8'); clear b8 b8'; dsimp only))
    obtain ⟨W2, hW2⟩ : ∃ q, q = w8.alloc (.cells #[.pointer none] 27) := ⟨_, rfl⟩
    have b82 : Below w8.heap.size w8 W2 := by rw [hW2]; exact (Below.refl _ w8).alloc (Nat.le_refl _) _
    replace HB := hide (HB.out.trans (b82.mono HB.out.size)); replace HBX := hide (HBX.out.below b82); replace HRS := hide (HRS.out.below b82)
    rw [← hW2]
    clear hW2 b82 hon cN
    have HLT : Hid (Mb < W2.heap.size) := hide (Array.getElem?_eq_some_iff.1 HBX.out.1).1
    go_cut [13, 14, 51, 52, 53, 54, 55, 56, 57] (fun v13 v14 v51 v52 v53 v54 v55 v56 v57 wq => ∃ (Nb : Nat) (pt : Option Addr) (t' : Pm.T), v13 = .pointer (some ⟨Nb, 0, none⟩) ∧ v14 = .int .i64 2 ∧ Hid (Boxd wq Nb pt t' ∧ t'.list = [] ∧ Below W2.heap.size W2 wq))
    case first =>
      as_aux_lemma =>
        have hW : ∀ W', Below W2.heap.size W2 W' → Calls Tryz.prog 46 #[.agg #[.pointer pm], .agg #[.int .i64 2, .int .i64 0, .string ⟨#[97]⟩, .int .i64 1, .int .i64 0], .string ⟨#[99]⟩] W' _ := fun W' hb => wr2 (HBX.out.2.2.below hb) HPM.out HL.out
        clear hat hnm
        have qd : W2.drew.cell? ⟨Mb, 0, none⟩ = some (.pointer pm) := HBX.out.cell
        have b0 : Below W2.heap.size W2 W2.drew := drew_below W2
        refine wp_region_held_drew (S := fun w' => w'.cell? ⟨Mb, 0, none⟩ = some (.pointer pm)) (by kernel_rfl) qd (fun hHeld => ?_)
        clear qd
        obtain ⟨Wd, hWd⟩ : ∃ Wd, Wd = W2.drew := ⟨_, rfl⟩
        rw [← hWd] at hHeld b0 ⊢
        clear hWd
        refine take_op (i := 0) (d := 52) (OP := Op.load 27 (Operand.tmp 1)) (T := 27) (v := ?vzz16) rfl rfl rfl rfl (by kernel_rfl) (by kernel_rfl) (by kernel_rfl) (fun _ _ _ h => h) (by rfl) ?hzz16 hHeld ?rzz16
        case hzz16 => (intro w' hSw; (try dsimp only at hSw); go_simp <;> with_reducible rfl)
        try simp only [Act.put, List.setIfInBounds_toArray, List.set_cons_zero, List.set_cons_succ]
        obtain ⟨y1, ey1⟩ : ∃ q, q = Wd.alloc (.cells #[.pointer none] 27) := ⟨_, rfl⟩
        have ry1 : y1.heap[Wd.heap.size]? = some (.cells #[.pointer none] 27 (0, 0)) := by rw [ey1]; exact heap_alloc_new Wd _
        have by1 : Below Wd.heap.size Wd y1 := by rw [ey1]; exact (Below.refl _ Wd).alloc (Nat.le_refl _) _
        have hy1 : y1.cell? ⟨Mb, 0, none⟩ = some (.pointer pm) := cell_stays hHeld by1
        have bby1 := b0.trans (by1.mono b0.size)
        refine call_turn_op (i := 1) (di := 53) (OPi := Op.call { callee := Callee.value (Operand.func 54), args := #[Operand.const (Value.int IntKind.i64 2), Operand.const (Value.string { data := #[] })], argTypes := #[2, 9] }) (Ti := 53) (j := 7) (dj := 13) (OPj := Op.alloc 27) (Tj := 0) (f := 54) (args := #[.int .i64 2, .string ⟨#[]⟩]) (u := .pointer (some ⟨Wd.heap.size, 0, none⟩)) (w' := y1) rfl rfl rfl rfl rfl rfl rfl rfl (by kernel_rfl) (by rfl) (by rfl) (by go_simp) (by rw [ey1]; exact exec_al27 Wd) hy1 ?_ ?_
        · refine (at46 2 ⟨#[]⟩ _).mono ?_
          rintro e z1 ⟨rfl, bz1⟩
          have hz1 : z1.cell? ⟨Mb, 0, none⟩ = some (.pointer pm) := cell_stays hHeld bz1
          have bbz1 := b0.trans (bz1.mono b0.size)
          refine ⟨_, rfl, hz1, ?_⟩
          try simp only [Act.put, List.setIfInBounds_toArray, List.set_cons_zero, List.set_cons_succ]
          refine take_op (i := 2) (d := 54) (OP := Op.field 53 (Operand.tmp 53) 0) (T := 43) (v := .agg #[.int .i64 2, .int .i64 0, .string ⟨#[97]⟩, .int .i64 1, .int .i64 0]) rfl rfl rfl rfl (by kernel_rfl) (by kernel_rfl) (by kernel_rfl) (fun _ _ _ h => h) (by rfl) ?hzz17 hz1 ?rzz17
          case hzz17 => (intro w' hSw; exact exec_fld53 rfl)
          try simp only [Act.put, List.setIfInBounds_toArray, List.set_cons_zero, List.set_cons_succ]
          obtain ⟨y2, ey2⟩ : ∃ q, q = z1.alloc (.cells #[.pointer none] 27) := ⟨_, rfl⟩
          have ry2 : y2.heap[z1.heap.size]? = some (.cells #[.pointer none] 27 (0, 0)) := by rw [ey2]; exact heap_alloc_new z1 _
          have by2 : Below z1.heap.size z1 y2 := by rw [ey2]; exact (Below.refl _ z1).alloc (Nat.le_refl _) _
          have hy2 : y2.cell? ⟨Mb, 0, none⟩ = some (.pointer pm) := cell_stays hz1 by2
          have bby2 := bbz1.trans (by2.mono bbz1.size)
          refine call_turn_op (i := 3) (di := 55) (OPi := Op.call { callee := Callee.value (Operand.func 46), args := #[Operand.tmp 52, Operand.tmp 54, Operand.const (Value.string { data := #[99] })], argTypes := #[27, 43, 9] }) (Ti := 29) (j := 7) (dj := 13) (OPj := Op.alloc 27) (Tj := 0) (f := 46) (args := #[.agg #[.pointer pm], .agg #[.int .i64 2, .int .i64 0, .string ⟨#[97]⟩, .int .i64 1, .int .i64 0], .string ⟨#[99]⟩]) (u := .pointer (some ⟨z1.heap.size, 0, none⟩)) (w' := y2) rfl rfl rfl rfl rfl rfl rfl rfl (by kernel_rfl) (by rfl) (by rfl) (by go_simp) (by rw [ey2]; exact exec_al27 z1) hy2 ?_ ?_
          · refine (hW  _ bbz1).mono ?_
            rintro e z2 ⟨t', pt, hpt, rfl, mg', hl', bz2⟩
            have hz2 : z2.cell? ⟨Mb, 0, none⟩ = some (.pointer pm) := cell_stays hz1 bz2
            have bbz2 := bbz1.trans (bz2.mono bbz1.size)
            refine ⟨_, rfl, hz2, ?_⟩
            try simp only [Act.put, List.setIfInBounds_toArray, List.set_cons_zero, List.set_cons_succ]
            refine take_op (i := 4) (d := 51) (OP := Op.move (Operand.tmp 55)) (T := 29) (v := ?vzz18) rfl rfl rfl rfl (by kernel_rfl) (by kernel_rfl) (by kernel_rfl) (fun _ _ _ h => h) (by rfl) ?hzz18 hz2 ?rzz18
            case hzz18 => (intro w' hSw; (try dsimp only at hSw); go_simp <;> with_reducible rfl)
            try simp only [Act.put, List.setIfInBounds_toArray, List.set_cons_zero, List.set_cons_succ]
            refine take_op (i := 5) (d := 56) (OP := Op.extract (Operand.tmp 51) 0) (T := 27) (v := ?vzz19) rfl rfl rfl rfl (by kernel_rfl) (by kernel_rfl) (by kernel_rfl) (fun _ _ _ h => h) (by rfl) ?hzz19 hz2 ?rzz19
            case hzz19 => (intro w' hSw; (try dsimp only at hSw); go_simp <;> with_reducible rfl)
            try simp only [Act.put, List.setIfInBounds_toArray, List.set_cons_zero, List.set_cons_succ]
            refine take_op (i := 6) (d := 57) (OP := Op.extract (Operand.tmp 51) 1) (T := 28) (v := ?vzz20) rfl rfl rfl rfl (by kernel_rfl) (by kernel_rfl) (by kernel_rfl) (fun _ _ _ h => h) (by rfl) ?hzz20 hz2 ?rzz20
            case hzz20 => (intro w' hSw; (try dsimp only at hSw); go_simp <;> with_reducible rfl)
            try simp only [Act.put, List.setIfInBounds_toArray, List.set_cons_zero, List.set_cons_succ]
            obtain ⟨z3, ez3⟩ : ∃ q, q = z2.alloc (.cells #[.pointer none] 27) := ⟨_, rfl⟩
            have rz3 : z3.heap[z2.heap.size]? = some (.cells #[.pointer none] 27 (0, 0)) := by rw [ez3]; exact heap_alloc_new z2 _
            have bz3 : Below z2.heap.size z2 z3 := by rw [ez3]; exact (Below.refl _ z2).alloc (Nat.le_refl _) _
            have hz3 : z3.cell? ⟨Mb, 0, none⟩ = some (.pointer pm) := cell_stays hz2 bz3
            have bbz3 := bbz2.trans (bz3.mono bbz2.size)
            refine turn_op (i := 7) (d := 13) (OP := Op.alloc 27) (T := 0) (v := .pointer (some ⟨z2.heap.size, 0, none⟩)) (w' := z3) rfl rfl rfl rfl (by kernel_rfl) (by rfl) (by rw [ez3]; exact exec_al27 z2) hz3 ?_
            try simp only [Act.put, List.setIfInBounds_toArray, List.set_cons_zero, List.set_cons_succ]
            obtain ⟨u9, o9⟩ := set_one (i := 0) (.pointer pt) rz3
            have hM9 : (z3.setCell ⟨z2.heap.size, 0, none⟩ (.pointer pt)).cell? ⟨Mb, 0, none⟩ = some (.pointer pm) := o9.cell hz3 (by simp only; have := HLT.out; have := bbz2.size; omega)
            refine skip_op (i := 8) (OP := Op.store 27 (Operand.tmp 13) (Operand.tmp 56)) (T := 0) (w' := z3.setCell ⟨z2.heap.size, 0, none⟩ (.pointer pt)) rfl rfl rfl rfl (by kernel_rfl) (by rfl) (exec_st27 rfl rfl ((cell_of_row _ _ 0 _ 27 (0, 0) rz3).trans rfl) (frozen_of_row _ _ 0 _ 27 rz3)) ⟨hM9, ?_⟩
            try simp only [Act.put, List.setIfInBounds_toArray, List.set_cons_zero, List.set_cons_succ]
            refine take_op (i := 9) (d := 14) (OP := Op.assign (Operand.tmp 57)) (T := 28) (v := ?vzz21) rfl rfl rfl rfl (by kernel_rfl) (by kernel_rfl) (by kernel_rfl) (fun _ _ _ h => h) (by rfl) ?hzz21 hM9 ?rzz21
            case hzz21 => (intro w' hSw; (try dsimp only at hSw); go_simp <;> with_reducible rfl)
            try simp only [Act.put, List.setIfInBounds_toArray, List.set_cons_zero, List.set_cons_succ]
            refine wpAnyH_done (by kernel_rfl) ?_ _
            have mg9 := (mg'.below bz3).aside rz3 o9
            have bl9 := Below.only bbz3 o9 bbz3.size (fun k e => by have e' : k = z2.heap.size := e; have := bbz2.size; omega)
            have HE9 := hide (And.intro u9 (And.intro hpt (And.intro mg9 (And.intro hl' bl9))))
            clear mg9 bl9 hpt hl' u9 o9
            go_wp2
            go_meet
            obtain ⟨u9, hpt, mg9, hl', bl9⟩ := HE9.out
            exact ⟨z2.heap.size, pt, t', rfl, rfl, hide ⟨⟨by simpa using u9, hpt, mg9⟩, hl', bl9⟩⟩
          · try simp only [Act.put, List.setIfInBounds_toArray, List.set_cons_zero, List.set_cons_succ]
            refine call_op (i := 3) (d := 55) (OP := Op.call { callee := Callee.value (Operand.func 46), args := #[Operand.tmp 52, Operand.tmp 54, Operand.const (Value.string { data := #[99] })], argTypes := #[27, 43, 9] }) (T := 29) (f := 46) (args := #[.agg #[.pointer pm], .agg #[.int .i64 2, .int .i64 0, .string ⟨#[97]⟩, .int .i64 1, .int .i64 0], .string ⟨#[99]⟩]) rfl rfl rfl rfl (by kernel_rfl) (by rfl) (by go_simp) ?_
            refine (hW  _ bby2).mono ?_
            rintro e z4 ⟨t', pt, hpt, rfl, mg', hl', bz4⟩
            have hz4 : z4.cell? ⟨Mb, 0, none⟩ = some (.pointer pm) := cell_stays hy2 bz4
            have bbz4 := bby2.trans (bz4.mono bby2.size)
            refine ⟨_, rfl, hz4, ?_⟩
            try simp only [Act.put, List.setIfInBounds_toArray, List.set_cons_zero, List.set_cons_succ]
            have rz4 := (bz4.block _ (Array.getElem?_eq_some_iff.1 ry2).1).trans ry2
            refine take_op (i := 4) (d := 51) (OP := Op.move (Operand.tmp 55)) (T := 29) (v := ?vzz22) rfl rfl rfl rfl (by kernel_rfl) (by kernel_rfl) (by kernel_rfl) (fun _ _ _ h => h) (by rfl) ?hzz22 hz4 ?rzz22
            case hzz22 => (intro w' hSw; (try dsimp only at hSw); go_simp <;> with_reducible rfl)
            try simp only [Act.put, List.setIfInBounds_toArray, List.set_cons_zero, List.set_cons_succ]
            refine take_op (i := 5) (d := 56) (OP := Op.extract (Operand.tmp 51) 0) (T := 27) (v := ?vzz23) rfl rfl rfl rfl (by kernel_rfl) (by kernel_rfl) (by kernel_rfl) (fun _ _ _ h => h) (by rfl) ?hzz23 hz4 ?rzz23
            case hzz23 => (intro w' hSw; (try dsimp only at hSw); go_simp <;> with_reducible rfl)
            try simp only [Act.put, List.setIfInBounds_toArray, List.set_cons_zero, List.set_cons_succ]
            refine take_op (i := 6) (d := 57) (OP := Op.extract (Operand.tmp 51) 1) (T := 28) (v := ?vzz24) rfl rfl rfl rfl (by kernel_rfl) (by kernel_rfl) (by kernel_rfl) (fun _ _ _ h => h) (by rfl) ?hzz24 hz4 ?rzz24
            case hzz24 => (intro w' hSw; (try dsimp only at hSw); go_simp <;> with_reducible rfl)
            try simp only [Act.put, List.setIfInBounds_toArray, List.set_cons_zero, List.set_cons_succ]
            obtain ⟨u9, o9⟩ := set_one (i := 0) (.pointer pt) rz4
            have hM9 : (z4.setCell ⟨z1.heap.size, 0, none⟩ (.pointer pt)).cell? ⟨Mb, 0, none⟩ = some (.pointer pm) := o9.cell hz4 (by simp only; have := HLT.out; have := bbz1.size; omega)
            refine skip_op (i := 8) (OP := Op.store 27 (Operand.tmp 13) (Operand.tmp 56)) (T := 0) (w' := z4.setCell ⟨z1.heap.size, 0, none⟩ (.pointer pt)) rfl rfl rfl rfl (by kernel_rfl) (by rfl) (exec_st27 rfl rfl ((cell_of_row _ _ 0 _ 27 (0, 0) rz4).trans rfl) (frozen_of_row _ _ 0 _ 27 rz4)) ⟨hM9, ?_⟩
            try simp only [Act.put, List.setIfInBounds_toArray, List.set_cons_zero, List.set_cons_succ]
            refine take_op (i := 9) (d := 14) (OP := Op.assign (Operand.tmp 57)) (T := 28) (v := ?vzz25) rfl rfl rfl rfl (by kernel_rfl) (by kernel_rfl) (by kernel_rfl) (fun _ _ _ h => h) (by rfl) ?hzz25 hM9 ?rzz25
            case hzz25 => (intro w' hSw; (try dsimp only at hSw); go_simp <;> with_reducible rfl)
            try simp only [Act.put, List.setIfInBounds_toArray, List.set_cons_zero, List.set_cons_succ]
            refine wpAnyH_done (by kernel_rfl) ?_ _
            have mg9 := mg'.aside rz4 o9
            have bl9 := Below.only bbz4 o9 bbz4.size (fun k e => by have e' : k = z1.heap.size := e; have := bbz1.size; omega)
            have HE9 := hide (And.intro u9 (And.intro hpt (And.intro mg9 (And.intro hl' bl9))))
            clear mg9 bl9 hpt hl' u9 o9
            go_wp2
            go_meet
            obtain ⟨u9, hpt, mg9, hl', bl9⟩ := HE9.out
            exact ⟨z1.heap.size, pt, t', rfl, rfl, hide ⟨⟨by simpa using u9, hpt, mg9⟩, hl', bl9⟩⟩
        · try simp only [Act.put, List.setIfInBounds_toArray, List.set_cons_zero, List.set_cons_succ]
          refine call_op (i := 1) (d := 53) (OP := Op.call { callee := Callee.value (Operand.func 54), args := #[Operand.const (Value.int IntKind.i64 2), Operand.const (Value.string { data := #[] })], argTypes := #[2, 9] }) (T := 53) (f := 54) (args := #[.int .i64 2, .string ⟨#[]⟩]) rfl rfl rfl rfl (by kernel_rfl) (by rfl) (by go_simp) ?_
          refine (at46 2 ⟨#[]⟩ _).mono ?_
          rintro e z5 ⟨rfl, bz5⟩
          have hz5 : z5.cell? ⟨Mb, 0, none⟩ = some (.pointer pm) := cell_stays hy1 bz5
          have bbz5 := bby1.trans (bz5.mono bby1.size)
          refine ⟨_, rfl, hz5, ?_⟩
          try simp only [Act.put, List.setIfInBounds_toArray, List.set_cons_zero, List.set_cons_succ]
          refine take_op (i := 2) (d := 54) (OP := Op.field 53 (Operand.tmp 53) 0) (T := 43) (v := .agg #[.int .i64 2, .int .i64 0, .string ⟨#[97]⟩, .int .i64 1, .int .i64 0]) rfl rfl rfl rfl (by kernel_rfl) (by kernel_rfl) (by kernel_rfl) (fun _ _ _ h => h) (by rfl) ?hzz26 hz5 ?rzz26
          case hzz26 => (intro w' hSw; exact exec_fld53 rfl)
          try simp only [Act.put, List.setIfInBounds_toArray, List.set_cons_zero, List.set_cons_succ]
          refine call_op (i := 3) (d := 55) (OP := Op.call { callee := Callee.value (Operand.func 46), args := #[Operand.tmp 52, Operand.tmp 54, Operand.const (Value.string { data := #[99] })], argTypes := #[27, 43, 9] }) (T := 29) (f := 46) (args := #[.agg #[.pointer pm], .agg #[.int .i64 2, .int .i64 0, .string ⟨#[97]⟩, .int .i64 1, .int .i64 0], .string ⟨#[99]⟩]) rfl rfl rfl rfl (by kernel_rfl) (by rfl) (by go_simp) ?_
          refine (hW  _ bbz5).mono ?_
          rintro e z6 ⟨t', pt, hpt, rfl, mg', hl', bz6⟩
          have hz6 : z6.cell? ⟨Mb, 0, none⟩ = some (.pointer pm) := cell_stays hz5 bz6
          have bbz6 := bbz5.trans (bz6.mono bbz5.size)
          refine ⟨_, rfl, hz6, ?_⟩
          try simp only [Act.put, List.setIfInBounds_toArray, List.set_cons_zero, List.set_cons_succ]
          have rz6 := (bz6.block _ (Array.getElem?_eq_some_iff.1 ((bz5.block _ (Array.getElem?_eq_some_iff.1 ry1).1).trans ry1)).1).trans ((bz5.block _ (Array.getElem?_eq_some_iff.1 ry1).1).trans ry1)
          refine take_op (i := 4) (d := 51) (OP := Op.move (Operand.tmp 55)) (T := 29) (v := ?vzz27) rfl rfl rfl rfl (by kernel_rfl) (by kernel_rfl) (by kernel_rfl) (fun _ _ _ h => h) (by rfl) ?hzz27 hz6 ?rzz27
          case hzz27 => (intro w' hSw; (try dsimp only at hSw); go_simp <;> with_reducible rfl)
          try simp only [Act.put, List.setIfInBounds_toArray, List.set_cons_zero, List.set_cons_succ]
          refine take_op (i := 5) (d := 56) (OP := Op.extract (Operand.tmp 51) 0) (T := 27) (v := ?vzz28) rfl rfl rfl rfl (by kernel_rfl) (by kernel_rfl) (by kernel_rfl) (fun _ _ _ h => h) (by rfl) ?hzz28 hz6 ?rzz28
          case hzz28 => (intro w' hSw; (try dsimp only at hSw); go_simp <;> with_reducible rfl)
          try simp only [Act.put, List.setIfInBounds_toArray, List.set_cons_zero, List.set_cons_succ]
          refine take_op (i := 6) (d := 57) (OP := Op.extract (Operand.tmp 51) 1) (T := 28) (v := ?vzz29) rfl rfl rfl rfl (by kernel_rfl) (by kernel_rfl) (by kernel_rfl) (fun _ _ _ h => h) (by rfl) ?hzz29 hz6 ?rzz29
          case hzz29 => (intro w' hSw; (try dsimp only at hSw); go_simp <;> with_reducible rfl)
          try simp only [Act.put, List.setIfInBounds_toArray, List.set_cons_zero, List.set_cons_succ]
          obtain ⟨u9, o9⟩ := set_one (i := 0) (.pointer pt) rz6
          have hM9 : (z6.setCell ⟨Wd.heap.size, 0, none⟩ (.pointer pt)).cell? ⟨Mb, 0, none⟩ = some (.pointer pm) := o9.cell hz6 (by simp only; have := HLT.out; have := b0.size; omega)
          refine skip_op (i := 8) (OP := Op.store 27 (Operand.tmp 13) (Operand.tmp 56)) (T := 0) (w' := z6.setCell ⟨Wd.heap.size, 0, none⟩ (.pointer pt)) rfl rfl rfl rfl (by kernel_rfl) (by rfl) (exec_st27 rfl rfl ((cell_of_row _ _ 0 _ 27 (0, 0) rz6).trans rfl) (frozen_of_row _ _ 0 _ 27 rz6)) ⟨hM9, ?_⟩
          try simp only [Act.put, List.setIfInBounds_toArray, List.set_cons_zero, List.set_cons_succ]
          refine take_op (i := 9) (d := 14) (OP := Op.assign (Operand.tmp 57)) (T := 28) (v := ?vzz30) rfl rfl rfl rfl (by kernel_rfl) (by kernel_rfl) (by kernel_rfl) (fun _ _ _ h => h) (by rfl) ?hzz30 hM9 ?rzz30
          case hzz30 => (intro w' hSw; (try dsimp only at hSw); go_simp <;> with_reducible rfl)
          try simp only [Act.put, List.setIfInBounds_toArray, List.set_cons_zero, List.set_cons_succ]
          refine wpAnyH_done (by kernel_rfl) ?_ _
          have mg9 := mg'.aside rz6 o9
          have bl9 := Below.only bbz6 o9 bbz6.size (fun k e => by have e' : k = Wd.heap.size := e; have := b0.size; omega)
          have HE9 := hide (And.intro u9 (And.intro hpt (And.intro mg9 (And.intro hl' bl9))))
          clear mg9 bl9 hpt hl' u9 o9
          go_wp2
          go_meet
          obtain ⟨u9, hpt, mg9, hl', bl9⟩ := HE9.out
          exact ⟨Wd.heap.size, pt, t', rfl, rfl, hide ⟨⟨by simpa using u9, hpt, mg9⟩, hl', bl9⟩⟩
    case rest =>
      obtain ⟨_, _, _, rfl, rfl, HQ⟩ := hcut
      have b5c := HQ.out.2.2
      replace HB := hide (HB.out.trans (b5c.mono HB.out.size)); replace HBX := hide (HBX.out.below b5c); replace HRS := hide (HRS.out.below b5c)
      clear b5c HLT HQ hat
      go_wp2_with (first
        | (go_at_call 43; refine (hnm _ _).mono ?_; rintro e w9 ⟨rfl, rfl⟩; dsimp only)
        | (go_at_call 108; refine (sameAB (HRS.out.below ((Below.refl _ _).alloc (Nat.le_refl _) _)) (heap_alloc_new _ _)).mono ?_; rintro e w10 ⟨rfl, b10⟩; replace HB := hide (HB.out.trans ((((Below.refl _ _).alloc (Nat.le_refl _) _).trans (b10.mono (by simp))).mono HB.out.size)); clear b10; dsimp only))
      go_ret
      exact ⟨rfl, HB.out⟩
end Go.Proofs.YtkkpdgfllnbigaaGreat
