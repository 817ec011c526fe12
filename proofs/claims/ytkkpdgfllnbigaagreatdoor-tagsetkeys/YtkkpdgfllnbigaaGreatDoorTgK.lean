/-
  tagset: the chapter's rows (17).
-/
import Derived.Test.YtkkpdgfllnbigaaGreatDoorMg17
import Derived.Test.YtkkpdgfllnbigaaGreatDoorMg23
namespace Go.Proofs.YtkkpdgfllnbigaaGreatDoor.Tg
open Go.RowKit Go.Shelf
set_option linter.unusedSimpArgs false
set_option linter.unusedVariables false
attribute [local go_sem] Oper.semAt_some

def tX : ByteArray := ⟨#[120]⟩
def tY : ByteArray := ⟨#[121]⟩
def tZ : ByteArray := ⟨#[122]⟩
def lM : List El := [(atS 2, tX), (atS 1, tY)]
def lF : List El := [(atS 1, tX), (atS 1, tY)]
def kM : List Kv := [kvT (atS 2, tX), kvT (atS 1, tY)]
def tkN : List Kv := [kvT (atS 2, tX), kvT (atS 3, tX), kvT (atS 1, tY)]
def kO : List Kv := [kvT (atS 1, tY)]
section
set_option maxRecDepth 100000
theorem good_M : goodT lM = true := by kernel_rfl
theorem good_F : goodT lF = false := by kernel_rfl
theorem ins_N : insI kM (atS 3, tX) = tkN := by kernel_rfl
theorem okI_N : okI kM (atS 3, tX) = true := by kernel_rfl
theorem rem_O : remL tkN tX = kO := by kernel_rfl
theorem rem_2 : remN tkN tX = 2 := by kernel_rfl
theorem okR_N : tokR tkN tX = true := by kernel_rfl
theorem may_M : mayT kM = true := by kernel_rfl
theorem may_O : mayT kO = true := by kernel_rfl
theorem tx_M : txL kM = [tX, tY] := by kernel_rfl
theorem tx_O : txL kO = [tY] := by kernel_rfl
theorem st_N : (stgL tkN tX).length = 2 := by kernel_rfl
theorem st_M : (stgL kM tZ).length = 0 := by kernel_rfl
theorem lt_M : Pm.cmpB (kvT (atS 2, tX)).1 (kvT (atS 1, tY)).1 = -1 := by kernel_rfl
end
theorem list_M {L : List Kv} (hp : L.Perm (lM.map kvT)) (hs : Pm.Srt L) : L = kM := by
  rcases perm_two (show L.Perm [kvT (atS 2, tX), kvT (atS 1, tY)] from hp) with e | e
  · exact e
  · exfalso
    rw [e] at hs
    have h1 := (List.pairwise_cons.1 hs).1 (kvT (atS 2, tX)) (by simp)
    have h2 := Pm.ord_B.anti (kvT (atS 2, tX)).1 (kvT (atS 1, tY)).1
    have h3 := lt_M
    omega
theorem at31 (g : Int) (x : ByteArray) (w : World) : Calls Tryz.prog 13 #[.int .i64 g, .string x] w fun e w' => e = .returned (.agg #[.int .i64 g, .int .i64 0, .string ⟨#[97]⟩, .int .i64 1, .int .i64 0, .string x]) ∧ Below w.heap.size w w' := by
  have m := heap_alloc_new w (.cells #[.int .i64 g, .int .i64 0, .string ⟨#[97]⟩, .int .i64 1, .int .i64 0, .string x] 33)
  have hb : Below w.heap.size w (w.alloc (.cells #[.int .i64 g, .int .i64 0, .string ⟨#[97]⟩, .int .i64 1, .int .i64 0, .string x] 33)) := (Below.refl _ w).alloc (Nat.le_refl _) _
  have HM := hide (And.intro m hb)
  clear m hb
  go_enter Tryz.func13, Tryz.ntmps13
  go_wp2
  refine ret_row w.heap.size [.int .i64 g, .int .i64 0, .string ⟨#[97]⟩, .int .i64 1, .int .i64 0, .string x] rfl rfl Tryz.underlying33 rfl (by kernel_rfl) HM.out.1 rfl ?_
  exact ⟨rfl, HM.out.2⟩
theorem ofM (b : Nat) (W : World) (h : W.heap[b]? = some (.cells (flatE [(atS 2, tX), (atS 1, tY)]).toArray 33 (0, 0))) : Calls Tryz.prog 12 #[.slice (some ⟨b, 0, none⟩) 2 2] W fun e w' => ∃ t pm, e = .returned (.tuple #[.agg #[.pointer pm], .int .i64 0]) ∧ t.ptr = .pointer pm ∧ Mg w' t ∧ t.list = kM ∧ Below W.heap.size W w' := (of18 (c := 2) lM (two_re h) (by decide)).mono fun e w' hh => by
  obtain ⟨t, he, hm, hb, h1, -, -⟩ := hh
  obtain ⟨pt, hpt⟩ := t.ptr_shape
  rw [good_M, if_pos rfl] at he
  exact ⟨t, pt, by rw [he]; unfold Pm.mv; rw [hpt], hpt, hm, list_M (h1 good_M) hm.srt, hb⟩
theorem ofF (b : Nat) (W : World) (h : W.heap[b]? = some (.cells (flatE [(atS 1, tX), (atS 1, tY)]).toArray 33 (0, 0))) : Calls Tryz.prog 12 #[.slice (some ⟨b, 0, none⟩) 2 2] W fun e w' => e = .returned (.tuple #[.agg #[.pointer none], .int .i64 2]) ∧ Below W.heap.size W w' := (of18 (c := 2) lF (two_re h) (by decide)).mono fun e w' hh => by
  obtain ⟨t, he, hm, hb, -, h2, -⟩ := hh
  rw [good_F, if_neg (by decide), h2 good_F] at he
  exact ⟨he, hb⟩
theorem insN {w : World} {t : Pm.T} {pm : Option Addr} (h : Mg w t) (hp : t.ptr = .pointer pm) (hl : t.list = kM) : Calls Tryz.prog 14 #[.agg #[.pointer pm], .agg #[.int .i64 3, .int .i64 0, .string ⟨#[97]⟩, .int .i64 1, .int .i64 0], .string ⟨#[120]⟩] w fun e w' => ∃ t' pt, t'.ptr = .pointer pt ∧ e = .returned (.tuple #[.agg #[.pointer pt], .int .i64 0]) ∧ Mg w' t' ∧ t'.list = tkN ∧ Below w.heap.size w w' := (insert30 (atS 3) tX h hp (by rw [← Pm.T.n_eq, hl]; decide)).mono fun e w' hh => by
  obtain ⟨t', pt, hpt, he, hm, hl', hb⟩ := hh
  rw [hl, okI_N, if_pos rfl] at he
  rw [hl, ins_N] at hl'
  exact ⟨t', pt, hpt, he, hm, hl', hb⟩
theorem remO {w : World} {t : Pm.T} {pm : Option Addr} (h : Mg w t) (hp : t.ptr = .pointer pm) (hl : t.list = tkN) : Calls Tryz.prog 15 #[.agg #[.pointer pm], .string ⟨#[120]⟩] w fun e w' => ∃ t' pt, t'.ptr = .pointer pt ∧ e = .returned (.tuple #[.agg #[.pointer pt], .int .i64 2, .int .i64 0]) ∧ Mg w' t' ∧ t'.list = kO ∧ Below w.heap.size w w' := (remove32 tX h hp).mono fun e w' hh => by
  obtain ⟨t', pt, hpt, he, hm, hl', -, hb⟩ := hh
  rw [hl, okR_N, rem_2, if_pos rfl] at he
  rw [hl, rem_O] at hl'
  exact ⟨t', pt, hpt, he, hm, hl', hb⟩
theorem txM {w : World} {t : Pm.T} {pm : Option Addr} (h : Mg w t) (hp : t.ptr = .pointer pm) (hl : t.list = kM) : Calls Tryz.prog 16 #[.agg #[.pointer pm]] w fun e w' => ∃ ao c, e = .returned (.tuple #[.slice ao 2 c, .int .i64 0]) ∧ Rs w' ao [tX, tY] ∧ Below w.heap.size w w' := (texts33 h hp).mono fun e w' hh => by
  obtain ⟨ao, c, he, hO, hb⟩ := hh
  rw [hl, tx_M] at he hO
  rw [may_M, if_pos rfl] at he
  exact ⟨ao, c, he, hO.rs, hb⟩
theorem txO {w : World} {t : Pm.T} {pm : Option Addr} (h : Mg w t) (hp : t.ptr = .pointer pm) (hl : t.list = kO) : Calls Tryz.prog 16 #[.agg #[.pointer pm]] w fun e w' => ∃ ao c, e = .returned (.tuple #[.slice ao 1 c, .int .i64 0]) ∧ Rs w' ao [tY] ∧ Below w.heap.size w w' := (texts33 h hp).mono fun e w' hh => by
  obtain ⟨ao, c, he, hO, hb⟩ := hh
  rw [hl, tx_O] at he hO
  rw [may_O, if_pos rfl] at he
  exact ⟨ao, c, he, hO.rs, hb⟩
theorem tgN {w : World} {t : Pm.T} {pm : Option Addr} (h : Mg w t) (hp : t.ptr = .pointer pm) (hl : t.list = tkN) : Calls Tryz.prog 17 #[.agg #[.pointer pm], .string ⟨#[120]⟩] w fun e w' => ∃ ao c, e = .returned (.slice ao 2 c) ∧ Below w.heap.size w w' := (tags37 tX h hp).mono fun e w' hh => by
  obtain ⟨ao, c, he, -, hb⟩ := hh
  rw [hl, st_N] at he
  exact ⟨ao, c, he, hb⟩
theorem hasM {w : World} {t : Pm.T} {pm : Option Addr} (h : Mg w t) (hp : t.ptr = .pointer pm) (hl : t.list = kM) : Calls Tryz.prog 18 #[.agg #[.pointer pm], .string ⟨#[122]⟩] w fun e w' => e = .returned (.bool false) ∧ Below w.heap.size w w' := (has36 tZ h hp).mono fun e w' hh => by
  rw [hl, st_M] at hh
  exact hh
theorem sameXY {w : World} {ao : Option Addr} {c b : Nat} (h : Rs w ao [tX, tY]) (hb : w.heap[b]? = some (.cells #[.string tX, .string tY] 9 (0, 0))) : Calls Tryz.prog 19 #[.slice ao 2 c, .slice (some ⟨b, 0, none⟩) 2 2] w fun e w' => e = .returned (.bool true) ∧ Below w.heap.size w w' := (sameTexts_any (c := c) (d := 2) (l := [tX, tY]) (m := [tX, tY]) h ⟨fun e => by simp at e, fun a ha j u hj => by
  cases ha
  rw [add_lit, cell_of_row _ _ (0 + j) _ 9 (0, 0) hb, Nat.zero_add]
  match j, hj with
  | 0, hj => simp at hj; subst hj; rfl
  | 1, hj => simp at hj; subst hj; rfl
  | j + 2, hj => simp at hj⟩ (by decide) (by decide)).mono fun e w' hh => by
  obtain ⟨he, n, hw⟩ := hh
  exact ⟨by rw [he]; simp, by rw [hw]; exact below_drew w n⟩
theorem sameY {w : World} {ao : Option Addr} {c b : Nat} (h : Rs w ao [tY]) (hb : w.heap[b]? = some (.cells #[.string tY] 9 (0, 0))) : Calls Tryz.prog 19 #[.slice ao 1 c, .slice (some ⟨b, 0, none⟩) 1 1] w fun e w' => e = .returned (.bool true) ∧ Below w.heap.size w w' := (sameTexts_any (c := c) (d := 1) (l := [tY]) (m := [tY]) h ⟨fun e => by simp at e, fun a ha j u hj => by
  cases ha
  rw [add_lit, cell_of_row _ _ (0 + j) _ 9 (0, 0) hb, Nat.zero_add]
  match j, hj with
  | 0, hj => simp at hj; subst hj; rfl
  | j + 1, hj => simp at hj⟩ (by decide) (by decide)).mono fun e w' hh => by
  obtain ⟨he, n, hw⟩ := hh
  exact ⟨by rw [he]; simp, by rw [hw]; exact below_drew w n⟩
set_option maxHeartbeats 16000000 in
set_option maxRecDepth 100000 in
theorem known17 (w : World) : Calls Tryz.prog 4 #[] w fun e w' => e = .returned (.bool true) ∧ Below w.heap.size w w' := by
  have hat := fun (g : Int) (x : ByteArray) W => at31 g x W
  have hnm := fun (n : Int) W => num20 n W
  have HB : Hid (Below w.heap.size w w) := hide (Below.refl _ _)
  go_enter Tryz.func4, Tryz.ntmps4
  go_upto_region 2 with (first
    | (go_at_call 13; refine (hat _ _ _).mono ?_; rintro e w1 ⟨rfl, b1⟩; replace HB := hide (HB.out.trans (b1.mono HB.out.size)); clear b1; dsimp only)
    | (go_at_call 12; refine (ofM w1.heap.size _ (heap_alloc_new w1 _)).mono ?_; rintro e w3 ⟨t, pm, rfl, hpm, mg, hl, b3⟩; replace HB := hide (HB.out.trans (((((Below.refl _ w1).alloc (Nat.le_refl _) _).trans (b3.mono (by simp))).mono HB.out.size))); have H3 := hide (And.intro hpm (And.intro mg hl)); clear b3 hpm mg hl; dsimp only))
  obtain ⟨hpm, mg, hl⟩ := H3.out
  obtain ⟨Mb, hMb⟩ : ∃ q, q = w3.heap.size := ⟨_, rfl⟩
  obtain ⟨W1, hW1⟩ : ∃ q, q = w3.alloc (.cells #[.pointer pm] 43) := ⟨_, rfl⟩
  have b31 : Below w3.heap.size w3 W1 := by rw [hW1]; exact (Below.refl _ w3).alloc (Nat.le_refl _) _
  have BX : Boxd W1 Mb pm t := ⟨by rw [hW1, hMb]; exact heap_alloc_new w3 _, hpm, mg.below b31⟩
  replace HB := hide (HB.out.trans (b31.mono HB.out.size))
  rw [← hW1, ← hMb]
  clear hMb hW1 b31 mg H3
  have HBX := hide BX
  have HL := hide hl
  have HPM := hide hpm
  clear BX hl hpm
  go_upto_region 3 with (first
    | (go_at_call 13; refine (hat _ _ _).mono ?_; rintro e w7 ⟨rfl, b7⟩; replace HB := hide (HB.out.trans (b7.mono HB.out.size)); replace HBX := hide (HBX.out.below b7); clear b7; dsimp only)
    | (go_at_call 12; refine (ofF w7.heap.size _ (heap_alloc_new w7 _)).mono ?_; rintro e w8 ⟨rfl, b8⟩; have b8' := ((Below.refl _ w7).alloc (Nat.le_refl _) _).trans (b8.mono (by simp)); replace HB := hide (HB.out.trans (b8'.mono HB.out.size)); replace HBX := hide (HBX.out.below b8'); clear b8 b8'; dsimp only))
  obtain ⟨W2, hW2⟩ : ∃ q, q = w8.alloc (.cells #[.pointer none] 43) := ⟨_, rfl⟩
  have b82 : Below w8.heap.size w8 W2 := by rw [hW2]; exact (Below.refl _ w8).alloc (Nat.le_refl _) _
  replace HB := hide (HB.out.trans (b82.mono HB.out.size)); replace HBX := hide (HBX.out.below b82)
  rw [← hW2]
  clear hW2 b82
  have HLT : Hid (Mb < W2.heap.size) := hide (gI HBX.out.1).1
  go_cut [5, 6, 28, 29, 30, 31, 32, 33, 34] (fun v5 v6 v28 v29 v30 v31 v32 v33 v34 wq => ∃ (Nb : Nat) (pt : Option Addr) (t' : Pm.T), v5 = .pointer (some ⟨Nb, 0, none⟩) ∧ v6 = .int .i64 0 ∧ Hid (Boxd wq Nb pt t' ∧ t'.list = tkN ∧ Below W2.heap.size W2 wq))
  case first =>
    as_aux_lemma =>
      have hW : ∀ W', Below W2.heap.size W2 W' → Calls Tryz.prog 14 #[.agg #[.pointer pm], .agg #[.int .i64 3, .int .i64 0, .string ⟨#[97]⟩, .int .i64 1, .int .i64 0], .string ⟨#[120]⟩] W' _ := fun W' hb => insN (HBX.out.2.2.below hb) HPM.out HL.out
      clear hat hnm
      have qd : W2.drew.cell? ⟨Mb, 0, none⟩ = some (.pointer pm) := HBX.out.cell
      have b0 : Below W2.heap.size W2 W2.drew := drew_below W2
      refine wp_region_held_drew (S := fun w' => w'.cell? ⟨Mb, 0, none⟩ = some (.pointer pm)) (by kernel_rfl) qd (fun hHeld => ?_)
      clear qd
      obtain ⟨Wd, hWd⟩ : ∃ Wd, Wd = W2.drew := ⟨_, rfl⟩
      rw [← hWd] at hHeld b0 ⊢
      clear hWd
      refine take_op (i := 0) (d := 29) (OP := Op.load 43 (Operand.tmp 1)) (T := 43) (v := ?v1) rfl rfl rfl rfl (by kernel_rfl) (by kernel_rfl) (by kernel_rfl) (fun _ _ _ h => h) (by rfl) ?h1 hHeld ?r1
      case h1 => (intro w' hSw; (try dsimp only at hSw); go_simp <;> with_reducible rfl)
      try simp only [Act.put, sI, sZ, sS]
      obtain ⟨y1, ey1⟩ : ∃ q, q = Wd.alloc (.cells #[.pointer none] 43) := ⟨_, rfl⟩
      have ry1 : y1.heap[Wd.heap.size]? = some (.cells #[.pointer none] 43 (0, 0)) := by rw [ey1]; exact heap_alloc_new Wd _
      have by1 : Below Wd.heap.size Wd y1 := by rw [ey1]; exact (Below.refl _ Wd).alloc (Nat.le_refl _) _
      have hy1 : y1.cell? ⟨Mb, 0, none⟩ = some (.pointer pm) := cell_stays hHeld by1
      have bby1 := b0.trans (by1.mono b0.size)
      refine call_turn_op (i := 1) (di := 30) (OPi := Op.call { callee := Callee.value (Operand.func 13), args := #[Operand.const (Value.int IntKind.i64 3), Operand.const (Value.string { data := #[] })], argTypes := #[2, 9] }) (Ti := 33) (j := 7) (dj := 5) (OPj := Op.alloc 43) (Tj := 0) (f := 13) (args := #[.int .i64 3, .string ⟨#[]⟩]) (u := .pointer (some ⟨Wd.heap.size, 0, none⟩)) (w' := y1) rfl rfl rfl rfl rfl rfl rfl rfl (by kernel_rfl) (by rfl) (by rfl) (by go_simp) (by rw [ey1]; exact exec_al27 Wd) hy1 ?_ ?_
      · refine (at31 3 ⟨#[]⟩ _).mono ?_
        rintro e z1 ⟨rfl, bz1⟩
        have hz1 : z1.cell? ⟨Mb, 0, none⟩ = some (.pointer pm) := cell_stays hHeld bz1
        have bbz1 := b0.trans (bz1.mono b0.size)
        refine ⟨_, rfl, hz1, ?_⟩
        try simp only [Act.put, sI, sZ, sS]
        refine take_op (i := 2) (d := 31) (OP := Op.field 33 (Operand.tmp 30) 0) (T := 27) (v := .agg #[.int .i64 3, .int .i64 0, .string ⟨#[97]⟩, .int .i64 1, .int .i64 0]) rfl rfl rfl rfl (by kernel_rfl) (by kernel_rfl) (by kernel_rfl) (fun _ _ _ h => h) (by rfl) ?h2 hz1 ?r2
        case h2 => (intro w' hSw; exact exec_fld53 rfl)
        try simp only [Act.put, sI, sZ, sS]
        obtain ⟨y2, ey2⟩ : ∃ q, q = z1.alloc (.cells #[.pointer none] 43) := ⟨_, rfl⟩
        have ry2 : y2.heap[z1.heap.size]? = some (.cells #[.pointer none] 43 (0, 0)) := by rw [ey2]; exact heap_alloc_new z1 _
        have by2 : Below z1.heap.size z1 y2 := by rw [ey2]; exact (Below.refl _ z1).alloc (Nat.le_refl _) _
        have hy2 : y2.cell? ⟨Mb, 0, none⟩ = some (.pointer pm) := cell_stays hz1 by2
        have bby2 := bbz1.trans (by2.mono bbz1.size)
        refine call_turn_op (i := 3) (di := 32) (OPi := Op.call { callee := Callee.value (Operand.func 14), args := #[Operand.tmp 29, Operand.tmp 31, Operand.const (Value.string { data := #[120] })], argTypes := #[43, 27, 9] }) (Ti := 44) (j := 7) (dj := 5) (OPj := Op.alloc 43) (Tj := 0) (f := 14) (args := #[.agg #[.pointer pm], .agg #[.int .i64 3, .int .i64 0, .string ⟨#[97]⟩, .int .i64 1, .int .i64 0], .string ⟨#[120]⟩]) (u := .pointer (some ⟨z1.heap.size, 0, none⟩)) (w' := y2) rfl rfl rfl rfl rfl rfl rfl rfl (by kernel_rfl) (by rfl) (by rfl) (by go_simp) (by rw [ey2]; exact exec_al27 z1) hy2 ?_ ?_
        · refine (hW  _ bbz1).mono ?_
          rintro e z2 ⟨t', pt, hpt, rfl, mg', hl', bz2⟩
          have hz2 : z2.cell? ⟨Mb, 0, none⟩ = some (.pointer pm) := cell_stays hz1 bz2
          have bbz2 := bbz1.trans (bz2.mono bbz1.size)
          refine ⟨_, rfl, hz2, ?_⟩
          try simp only [Act.put, sI, sZ, sS]
          refine take_op (i := 4) (d := 28) (OP := Op.move (Operand.tmp 32)) (T := 44) (v := ?v3) rfl rfl rfl rfl (by kernel_rfl) (by kernel_rfl) (by kernel_rfl) (fun _ _ _ h => h) (by rfl) ?h3 hz2 ?r3
          case h3 => (intro w' hSw; (try dsimp only at hSw); go_simp <;> with_reducible rfl)
          try simp only [Act.put, sI, sZ, sS]
          refine take_op (i := 5) (d := 33) (OP := Op.extract (Operand.tmp 28) 0) (T := 43) (v := ?v4) rfl rfl rfl rfl (by kernel_rfl) (by kernel_rfl) (by kernel_rfl) (fun _ _ _ h => h) (by rfl) ?h4 hz2 ?r4
          case h4 => (intro w' hSw; (try dsimp only at hSw); go_simp <;> with_reducible rfl)
          try simp only [Act.put, sI, sZ, sS]
          refine take_op (i := 6) (d := 34) (OP := Op.extract (Operand.tmp 28) 1) (T := 29) (v := ?v5) rfl rfl rfl rfl (by kernel_rfl) (by kernel_rfl) (by kernel_rfl) (fun _ _ _ h => h) (by rfl) ?h5 hz2 ?r5
          case h5 => (intro w' hSw; (try dsimp only at hSw); go_simp <;> with_reducible rfl)
          try simp only [Act.put, sI, sZ, sS]
          obtain ⟨z3, ez3⟩ : ∃ q, q = z2.alloc (.cells #[.pointer none] 43) := ⟨_, rfl⟩
          have rz3 : z3.heap[z2.heap.size]? = some (.cells #[.pointer none] 43 (0, 0)) := by rw [ez3]; exact heap_alloc_new z2 _
          have bz3 : Below z2.heap.size z2 z3 := by rw [ez3]; exact (Below.refl _ z2).alloc (Nat.le_refl _) _
          have hz3 : z3.cell? ⟨Mb, 0, none⟩ = some (.pointer pm) := cell_stays hz2 bz3
          have bbz3 := bbz2.trans (bz3.mono bbz2.size)
          refine turn_op (i := 7) (d := 5) (OP := Op.alloc 43) (T := 0) (v := .pointer (some ⟨z2.heap.size, 0, none⟩)) (w' := z3) rfl rfl rfl rfl (by kernel_rfl) (by rfl) (by rw [ez3]; exact exec_al27 z2) hz3 ?_
          try simp only [Act.put, sI, sZ, sS]
          obtain ⟨u9, o9⟩ := set_one (i := 0) (.pointer pt) rz3
          have hM9 : (z3.setCell ⟨z2.heap.size, 0, none⟩ (.pointer pt)).cell? ⟨Mb, 0, none⟩ = some (.pointer pm) := o9.cell hz3 (by simp only; have := HLT.out; have := bbz2.size; omega)
          refine skip_op (i := 8) (OP := Op.store 43 (Operand.tmp 5) (Operand.tmp 33)) (T := 0) (w' := z3.setCell ⟨z2.heap.size, 0, none⟩ (.pointer pt)) rfl rfl rfl rfl (by kernel_rfl) (by rfl) (exec_st27 rfl rfl ((cell_of_row _ _ 0 _ 43 (0, 0) rz3).trans rfl) (frozen_of_row _ _ 0 _ 43 rz3)) ⟨hM9, ?_⟩
          try simp only [Act.put, sI, sZ, sS]
          refine take_op (i := 9) (d := 6) (OP := Op.assign (Operand.tmp 34)) (T := 29) (v := ?v6) rfl rfl rfl rfl (by kernel_rfl) (by kernel_rfl) (by kernel_rfl) (fun _ _ _ h => h) (by rfl) ?h6 hM9 ?r6
          case h6 => (intro w' hSw; (try dsimp only at hSw); go_simp <;> with_reducible rfl)
          try simp only [Act.put, sI, sZ, sS]
          refine wpAnyH_done (by kernel_rfl) ?_ _
          have mg9 := (mg'.below bz3).aside rz3 o9
          have bl9 := Below.only bbz3 o9 bbz3.size (fun k e => by have e' : k = z2.heap.size := e; have := bbz2.size; omega)
          have HE9 := hide (And.intro u9 (And.intro hpt (And.intro mg9 (And.intro hl' bl9))))
          clear mg9 bl9 hpt hl' u9 o9
          go_wp2
          go_meet
          obtain ⟨u9, hpt, mg9, hl', bl9⟩ := HE9.out
          exact ⟨z2.heap.size, pt, t', rfl, rfl, hide ⟨⟨by simpa using u9, hpt, mg9⟩, hl', bl9⟩⟩
        · try simp only [Act.put, sI, sZ, sS]
          refine call_op (i := 3) (d := 32) (OP := Op.call { callee := Callee.value (Operand.func 14), args := #[Operand.tmp 29, Operand.tmp 31, Operand.const (Value.string { data := #[120] })], argTypes := #[43, 27, 9] }) (T := 44) (f := 14) (args := #[.agg #[.pointer pm], .agg #[.int .i64 3, .int .i64 0, .string ⟨#[97]⟩, .int .i64 1, .int .i64 0], .string ⟨#[120]⟩]) rfl rfl rfl rfl (by kernel_rfl) (by rfl) (by go_simp) ?_
          refine (hW  _ bby2).mono ?_
          rintro e z4 ⟨t', pt, hpt, rfl, mg', hl', bz4⟩
          have hz4 : z4.cell? ⟨Mb, 0, none⟩ = some (.pointer pm) := cell_stays hy2 bz4
          have bbz4 := bby2.trans (bz4.mono bby2.size)
          refine ⟨_, rfl, hz4, ?_⟩
          try simp only [Act.put, sI, sZ, sS]
          have rz4 := (bz4.block _ (gI ry2).1).trans ry2
          refine take_op (i := 4) (d := 28) (OP := Op.move (Operand.tmp 32)) (T := 44) (v := ?v7) rfl rfl rfl rfl (by kernel_rfl) (by kernel_rfl) (by kernel_rfl) (fun _ _ _ h => h) (by rfl) ?h7 hz4 ?r7
          case h7 => (intro w' hSw; (try dsimp only at hSw); go_simp <;> with_reducible rfl)
          try simp only [Act.put, sI, sZ, sS]
          refine take_op (i := 5) (d := 33) (OP := Op.extract (Operand.tmp 28) 0) (T := 43) (v := ?v8) rfl rfl rfl rfl (by kernel_rfl) (by kernel_rfl) (by kernel_rfl) (fun _ _ _ h => h) (by rfl) ?h8 hz4 ?r8
          case h8 => (intro w' hSw; (try dsimp only at hSw); go_simp <;> with_reducible rfl)
          try simp only [Act.put, sI, sZ, sS]
          refine take_op (i := 6) (d := 34) (OP := Op.extract (Operand.tmp 28) 1) (T := 29) (v := ?v9) rfl rfl rfl rfl (by kernel_rfl) (by kernel_rfl) (by kernel_rfl) (fun _ _ _ h => h) (by rfl) ?h9 hz4 ?r9
          case h9 => (intro w' hSw; (try dsimp only at hSw); go_simp <;> with_reducible rfl)
          try simp only [Act.put, sI, sZ, sS]
          obtain ⟨u9, o9⟩ := set_one (i := 0) (.pointer pt) rz4
          have hM9 : (z4.setCell ⟨z1.heap.size, 0, none⟩ (.pointer pt)).cell? ⟨Mb, 0, none⟩ = some (.pointer pm) := o9.cell hz4 (by simp only; have := HLT.out; have := bbz1.size; omega)
          refine skip_op (i := 8) (OP := Op.store 43 (Operand.tmp 5) (Operand.tmp 33)) (T := 0) (w' := z4.setCell ⟨z1.heap.size, 0, none⟩ (.pointer pt)) rfl rfl rfl rfl (by kernel_rfl) (by rfl) (exec_st27 rfl rfl ((cell_of_row _ _ 0 _ 43 (0, 0) rz4).trans rfl) (frozen_of_row _ _ 0 _ 43 rz4)) ⟨hM9, ?_⟩
          try simp only [Act.put, sI, sZ, sS]
          refine take_op (i := 9) (d := 6) (OP := Op.assign (Operand.tmp 34)) (T := 29) (v := ?v10) rfl rfl rfl rfl (by kernel_rfl) (by kernel_rfl) (by kernel_rfl) (fun _ _ _ h => h) (by rfl) ?h10 hM9 ?r10
          case h10 => (intro w' hSw; (try dsimp only at hSw); go_simp <;> with_reducible rfl)
          try simp only [Act.put, sI, sZ, sS]
          refine wpAnyH_done (by kernel_rfl) ?_ _
          have mg9 := mg'.aside rz4 o9
          have bl9 := Below.only bbz4 o9 bbz4.size (fun k e => by have e' : k = z1.heap.size := e; have := bbz1.size; omega)
          have HE9 := hide (And.intro u9 (And.intro hpt (And.intro mg9 (And.intro hl' bl9))))
          clear mg9 bl9 hpt hl' u9 o9
          go_wp2
          go_meet
          obtain ⟨u9, hpt, mg9, hl', bl9⟩ := HE9.out
          exact ⟨z1.heap.size, pt, t', rfl, rfl, hide ⟨⟨by simpa using u9, hpt, mg9⟩, hl', bl9⟩⟩
      · try simp only [Act.put, sI, sZ, sS]
        refine call_op (i := 1) (d := 30) (OP := Op.call { callee := Callee.value (Operand.func 13), args := #[Operand.const (Value.int IntKind.i64 3), Operand.const (Value.string { data := #[] })], argTypes := #[2, 9] }) (T := 33) (f := 13) (args := #[.int .i64 3, .string ⟨#[]⟩]) rfl rfl rfl rfl (by kernel_rfl) (by rfl) (by go_simp) ?_
        refine (at31 3 ⟨#[]⟩ _).mono ?_
        rintro e z5 ⟨rfl, bz5⟩
        have hz5 : z5.cell? ⟨Mb, 0, none⟩ = some (.pointer pm) := cell_stays hy1 bz5
        have bbz5 := bby1.trans (bz5.mono bby1.size)
        refine ⟨_, rfl, hz5, ?_⟩
        try simp only [Act.put, sI, sZ, sS]
        refine take_op (i := 2) (d := 31) (OP := Op.field 33 (Operand.tmp 30) 0) (T := 27) (v := .agg #[.int .i64 3, .int .i64 0, .string ⟨#[97]⟩, .int .i64 1, .int .i64 0]) rfl rfl rfl rfl (by kernel_rfl) (by kernel_rfl) (by kernel_rfl) (fun _ _ _ h => h) (by rfl) ?h11 hz5 ?r11
        case h11 => (intro w' hSw; exact exec_fld53 rfl)
        try simp only [Act.put, sI, sZ, sS]
        refine call_op (i := 3) (d := 32) (OP := Op.call { callee := Callee.value (Operand.func 14), args := #[Operand.tmp 29, Operand.tmp 31, Operand.const (Value.string { data := #[120] })], argTypes := #[43, 27, 9] }) (T := 44) (f := 14) (args := #[.agg #[.pointer pm], .agg #[.int .i64 3, .int .i64 0, .string ⟨#[97]⟩, .int .i64 1, .int .i64 0], .string ⟨#[120]⟩]) rfl rfl rfl rfl (by kernel_rfl) (by rfl) (by go_simp) ?_
        refine (hW  _ bbz5).mono ?_
        rintro e z6 ⟨t', pt, hpt, rfl, mg', hl', bz6⟩
        have hz6 : z6.cell? ⟨Mb, 0, none⟩ = some (.pointer pm) := cell_stays hz5 bz6
        have bbz6 := bbz5.trans (bz6.mono bbz5.size)
        refine ⟨_, rfl, hz6, ?_⟩
        try simp only [Act.put, sI, sZ, sS]
        have rz6 := (bz6.block _ (gI ((bz5.block _ (gI ry1).1).trans ry1)).1).trans ((bz5.block _ (gI ry1).1).trans ry1)
        refine take_op (i := 4) (d := 28) (OP := Op.move (Operand.tmp 32)) (T := 44) (v := ?v12) rfl rfl rfl rfl (by kernel_rfl) (by kernel_rfl) (by kernel_rfl) (fun _ _ _ h => h) (by rfl) ?h12 hz6 ?r12
        case h12 => (intro w' hSw; (try dsimp only at hSw); go_simp <;> with_reducible rfl)
        try simp only [Act.put, sI, sZ, sS]
        refine take_op (i := 5) (d := 33) (OP := Op.extract (Operand.tmp 28) 0) (T := 43) (v := ?v13) rfl rfl rfl rfl (by kernel_rfl) (by kernel_rfl) (by kernel_rfl) (fun _ _ _ h => h) (by rfl) ?h13 hz6 ?r13
        case h13 => (intro w' hSw; (try dsimp only at hSw); go_simp <;> with_reducible rfl)
        try simp only [Act.put, sI, sZ, sS]
        refine take_op (i := 6) (d := 34) (OP := Op.extract (Operand.tmp 28) 1) (T := 29) (v := ?v14) rfl rfl rfl rfl (by kernel_rfl) (by kernel_rfl) (by kernel_rfl) (fun _ _ _ h => h) (by rfl) ?h14 hz6 ?r14
        case h14 => (intro w' hSw; (try dsimp only at hSw); go_simp <;> with_reducible rfl)
        try simp only [Act.put, sI, sZ, sS]
        obtain ⟨u9, o9⟩ := set_one (i := 0) (.pointer pt) rz6
        have hM9 : (z6.setCell ⟨Wd.heap.size, 0, none⟩ (.pointer pt)).cell? ⟨Mb, 0, none⟩ = some (.pointer pm) := o9.cell hz6 (by simp only; have := HLT.out; have := b0.size; omega)
        refine skip_op (i := 8) (OP := Op.store 43 (Operand.tmp 5) (Operand.tmp 33)) (T := 0) (w' := z6.setCell ⟨Wd.heap.size, 0, none⟩ (.pointer pt)) rfl rfl rfl rfl (by kernel_rfl) (by rfl) (exec_st27 rfl rfl ((cell_of_row _ _ 0 _ 43 (0, 0) rz6).trans rfl) (frozen_of_row _ _ 0 _ 43 rz6)) ⟨hM9, ?_⟩
        try simp only [Act.put, sI, sZ, sS]
        refine take_op (i := 9) (d := 6) (OP := Op.assign (Operand.tmp 34)) (T := 29) (v := ?v15) rfl rfl rfl rfl (by kernel_rfl) (by kernel_rfl) (by kernel_rfl) (fun _ _ _ h => h) (by rfl) ?h15 hM9 ?r15
        case h15 => (intro w' hSw; (try dsimp only at hSw); go_simp <;> with_reducible rfl)
        try simp only [Act.put, sI, sZ, sS]
        refine wpAnyH_done (by kernel_rfl) ?_ _
        have mg9 := mg'.aside rz6 o9
        have bl9 := Below.only bbz6 o9 bbz6.size (fun k e => by have e' : k = Wd.heap.size := e; have := b0.size; omega)
        have HE9 := hide (And.intro u9 (And.intro hpt (And.intro mg9 (And.intro hl' bl9))))
        clear mg9 bl9 hpt hl' u9 o9
        go_wp2
        go_meet
        obtain ⟨u9, hpt, mg9, hl', bl9⟩ := HE9.out
        exact ⟨Wd.heap.size, pt, t', rfl, rfl, hide ⟨⟨by simpa using u9, hpt, mg9⟩, hl', bl9⟩⟩
  case rest =>
    obtain ⟨Nb, pn, tn, rfl, rfl, HQ⟩ := hcut
    obtain ⟨bN, lN, b5c⟩ := HQ.out
    replace HB := hide (HB.out.trans (b5c.mono HB.out.size)); replace HBX := hide (HBX.out.below b5c)
    have HN := hide (And.intro bN lN)
    have hr := remO bN.2.2 bN.2.1 lN
    have cN := bN.cell
    clear bN lN b5c HLT HQ hat
    go_upto_region 5 with (go_at_call 15; refine hr.mono ?_; rintro e w4 ⟨tO, po, hpo, rfl, mg, hl, b4⟩; replace HB := hide (HB.out.trans (b4.mono HB.out.size)); replace HBX := hide (HBX.out.below b4); replace HN := hide (And.intro (HN.out.1.below b4) HN.out.2); have H4 := hide (And.intro hpo (And.intro mg hl)); clear b4 hpo mg hl; dsimp only)
    obtain ⟨hpo, mg, hl⟩ := H4.out
    obtain ⟨Ob, hOb⟩ : ∃ q, q = w4.heap.size := ⟨_, rfl⟩
    obtain ⟨W4, hW4⟩ : ∃ q, q = w4.alloc (.cells #[.pointer po] 43) := ⟨_, rfl⟩
    have b44 : Below w4.heap.size w4 W4 := by rw [hW4]; exact (Below.refl _ w4).alloc (Nat.le_refl _) _
    have BO : Boxd W4 Ob po tO := ⟨by rw [hW4, hOb]; exact heap_alloc_new w4 _, hpo, mg.below b44⟩
    replace HB := hide (HB.out.trans (b44.mono HB.out.size)); replace HBX := hide (HBX.out.below b44); replace HN := hide (And.intro (HN.out.1.below b44) HN.out.2)
    rw [← hW4, ← hOb]
    have cO := BO.cell
    have ht := txO BO.2.2 hpo hl
    clear hOb hW4 b44 mg H4 hr cN BO hpo hl
    go_upto_region 6 with (go_at_call 16; refine ht.mono ?_; rintro e w5 ⟨a1, c1, rfl, rs, b5⟩; replace HB := hide (HB.out.trans (b5.mono HB.out.size)); replace HBX := hide (HBX.out.below b5); replace HN := hide (And.intro (HN.out.1.below b5) HN.out.2); have HR1 := hide rs; clear b5 rs; dsimp only)
    have cM := HBX.out.cell
    have ht2 := txM HBX.out.2.2 HPM.out HL.out
    clear ht cO
    go_upto_region 7 with (go_at_call 16; refine ht2.mono ?_; rintro e w6 ⟨a2, c2, rfl, rs, b6⟩; replace HB := hide (HB.out.trans (b6.mono HB.out.size)); replace HBX := hide (HBX.out.below b6); replace HN := hide (And.intro (HN.out.1.below b6) HN.out.2); replace HR1 := hide (HR1.out.below b6); have HR2 := hide rs; clear b6 rs; dsimp only)
    have hg := tgN HN.out.1.2.2 HN.out.1.2.1 HN.out.2
    replace cM := HBX.out.cell
    have cN := HN.out.1.cell
    clear ht2
    go_wp2_with (first
      | (go_at_call 10; refine (hnm _ _).mono ?_; rintro e w9 ⟨rfl, rfl⟩; dsimp only)
      | (go_at_call 17; refine hg.mono ?_; rintro e wa ⟨a3, c3, rfl, ba⟩; replace HB := hide (HB.out.trans (ba.mono HB.out.size)); replace HBX := hide (HBX.out.below ba); replace HR1 := hide (HR1.out.below ba); replace HR2 := hide (HR2.out.below ba); have cM2 := HBX.out.cell; have hh := hasM HBX.out.2.2 HPM.out HL.out; clear ba; dsimp only)
      | (go_at_call 18; refine hh.mono ?_; rintro e wb ⟨rfl, bb⟩; replace HB := hide (HB.out.trans (bb.mono HB.out.size)); replace HR1 := hide (HR1.out.below bb); replace HR2 := hide (HR2.out.below bb); clear bb; dsimp only)
      | (go_at_call 19; refine (sameXY (HR9.out.below ((Below.refl _ _).alloc (Nat.le_refl _) _)) (heap_alloc_new _ _)).mono ?_; rintro e wd ⟨rfl, bd⟩; replace HB := hide (HB.out.trans ((((Below.refl _ _).alloc (Nat.le_refl _) _).trans (bd.mono (by simp))).mono HB.out.size)); clear bd; dsimp only)
      | (go_at_call 19; refine (sameY (HR1.out.below ((Below.refl _ _).alloc (Nat.le_refl _) _)) (heap_alloc_new _ _)).mono ?_; rintro e wc ⟨rfl, bc⟩; have bc' := (((Below.refl _ _).alloc (Nat.le_refl _) _).trans (bc.mono (by simp))); replace HB := hide (HB.out.trans (bc'.mono HB.out.size)); have HR9 := hide (HR2.out.below bc'); clear bc bc'; dsimp only))
    go_ret
    exact ⟨rfl, HB.out⟩
end Go.Proofs.YtkkpdgfllnbigaaGreatDoor.Tg
