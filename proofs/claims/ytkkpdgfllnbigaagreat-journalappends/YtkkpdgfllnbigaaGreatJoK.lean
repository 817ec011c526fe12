/-
  journal: the chapter's rows (known 84).
-/
import Derived.Test.YtkkpdgfllnbigaaGreatMg21
import Derived.Test.YtkkpdgfllnbigaaGreatMg22
import Derived.Test.YtkkpdgfllnbigaaGreatMg15
import Derived.Test.YtkkpdgfllnbigaaGreatSort1
import Derived.Deep.DeepCutAuto
import Derived.Deep.CutBlock
namespace Go.Proofs.YtkkpdgfllnbigaaGreat.Jo
open Go.RowKit Go.Shelf
set_option linter.unusedSimpArgs false
attribute [local go_sem] Oper.semAt_some

theorem exec_eq53 {ev' : Operand → Value} {x y : Operand} {T : TypeId} {w : World} {p q : El} (hx : ev' x = ev p) (hy : ev' y = ev q) : (execOp ev' { dst := none, op := .binOp .eql 53 x y 53, type := T, pos := "", after := #[], guard := none }).run Tryz.prog w = .ok (.value (.bool (decide (p = q)))) w := by
  have h := fun W => run_eq77 p q W
  obtain ⟨⟨g, r, l, n, i⟩, t⟩ := p
  obtain ⟨⟨g', r', l', n', i'⟩, t'⟩ := q
  unfold execOp
  simp only [hx, hy]
  dsimp only [ev] at h ⊢
  go_simp
def abcL : List Kv := [kvE (atS 1, tA), kvE (atS 2, tB), kvE (atS 3, tC)]
theorem q_may3 : mayL abcL = true := by decide +kernel
theorem q_wr1 : okWr abL (atS 1) tC = false := by decide +kernel
theorem n_abL {t : Pm.T} (h : t.list = abL) : t.n < 400 := by rw [← Pm.T.n_eq, h]; decide
def tZ : ByteArray := ⟨#[122]⟩
def zbL : List Kv := [kvE (atS 1, tZ), kvE (atS 2, tB)]
theorem good_bz : goodL [(atS 2, tB), (atS 1, tZ)] = true := by decide +kernel
theorem cmp_21z : ¬ Pm.cmpB (kvE (atS 2, tB)).1 (kvE (atS 1, tZ)).1 = -1 := by decide +kernel
theorem list_zb {t : Pm.T} (h : t.list.Perm ([(atS 2, tB), (atS 1, tZ)].map kvE)) (hs : Pm.Srt t.list) : t.list = zbL := by
  rcases perm_two h with e | e
  · rw [e] at hs
    have : Pm.cmpB (kvE (atS 2, tB)).1 (kvE (atS 1, tZ)).1 = -1 := (List.pairwise_cons.1 hs).1 _ (by simp)
    exact absurd this cmp_21z
  · exact e
theorem j_at1 : atL abL 1 = (((2, 0, ⟨#[97]⟩, 1, 0), ⟨#[98]⟩), true) := by decide +kernel
theorem j_at2 : atL abL 2 = (zE, false) := by decide +kernel
theorem j_txt : (elsL abcL).map Prod.snd = [tA, tB, tC] := by decide +kernel
theorem j_pz : (mayL zbL && mayL abL && partF (elsL zbL) (elsL abL)) = false := by decide +kernel
theorem j_p1 : (mayL abL && mayL abcL && partF (elsL abL) (elsL abcL)) = true := by decide +kernel
theorem j_p2 : (mayL abcL && mayL abL && partF (elsL abcL) (elsL abL)) = false := by decide +kernel
theorem j_sin : sinL abL (atS 1) = [(atS 2, tB)] := by decide +kernel
theorem ofABj (b : Nat) (W : World) (h : W.heap[b]? = some (.cells (flatE [(atS 2, tB), (atS 1, tA)]).toArray 53 (0, 0))) : Calls Tryz.prog 85 #[.slice (some ⟨b, 0, none⟩) 2 2] W fun e w' => ∃ t pm, e = .returned (.tuple #[.agg #[.pointer pm], .int .i64 0]) ∧ t.ptr = .pointer pm ∧ Mg w' t ∧ t.list = abL ∧ Below W.heap.size W w' := (jofP (c := 2) _ (two_re h) (by decide)).mono fun e w' hh => by
  obtain ⟨t, pm, hp, he, hm, h1, -, hb⟩ := hh
  rw [good_ba, if_pos rfl] at he
  exact ⟨t, pm, he, hp, hm, list_ab (h1 good_ba) hm.srt, hb⟩
theorem ofZBj (b : Nat) (W : World) (h : W.heap[b]? = some (.cells (flatE [(atS 2, tB), (atS 1, tZ)]).toArray 53 (0, 0))) : Calls Tryz.prog 85 #[.slice (some ⟨b, 0, none⟩) 2 2] W fun e w' => ∃ t pm, e = .returned (.tuple #[.agg #[.pointer pm], .int .i64 0]) ∧ t.ptr = .pointer pm ∧ Mg w' t ∧ t.list = zbL ∧ Below W.heap.size W w' := (jofP (c := 2) _ (two_re h) (by decide)).mono fun e w' hh => by
  obtain ⟨t, pm, hp, he, hm, h1, -, hb⟩ := hh
  rw [good_bz, if_pos rfl] at he
  exact ⟨t, pm, he, hp, hm, list_zb (h1 good_bz) hm.srt, hb⟩
theorem appP {w : World} {t : Pm.T} {pm : Option Addr} (s : St) (x : ByteArray) (h : Mg w t) (hn : t.n < 400) (hp : t.ptr = .pointer pm) : Calls Tryz.prog 90 #[.agg #[.pointer pm], svT s, .string x] w fun e w' => ∃ t' pt, t'.ptr = .pointer pt ∧ e = .returned (.tuple #[.agg #[.pointer pt], .int .i64 (if okWr t.list s x then 0 else 2)]) ∧ Mg w' t' ∧ (t'.list = if okWr t.list s x then t.list ++ [(keyT s, x)] else []) ∧ Below w.heap.size w w' := by
  have := jAppend_any t s x w h hn
  unfold Pm.mv at this
  rw [hp] at this
  refine this.mono fun e w' hh => ?_
  obtain ⟨t', he, hm, hl, hb⟩ := hh
  obtain ⟨pt, hpt⟩ := t'.ptr_shape
  exact ⟨t', pt, hpt, by rw [he]; unfold Pm.mv; rw [hpt], hm, hl, hb⟩
theorem app1 {w : World} {t : Pm.T} {pm : Option Addr} (h : Mg w t) (hp : t.ptr = .pointer pm) (hl : t.list = abL) : Calls Tryz.prog 90 #[.agg #[.pointer pm], .agg #[.int .i64 1, .int .i64 0, .string ⟨#[97]⟩, .int .i64 1, .int .i64 0], .string ⟨#[99]⟩] w fun e w' => ∃ t' pt, t'.ptr = .pointer pt ∧ e = .returned (.tuple #[.agg #[.pointer pt], .int .i64 2]) ∧ Mg w' t' ∧ t'.list = [] ∧ Below w.heap.size w w' := (appP (atS 1) tC h (n_abL hl) hp).mono fun e w' hh => by
  obtain ⟨t', pt, hpt, he, hm, hl', hb⟩ := hh
  have hw : okWr t.list (atS 1) tC = false := by rw [hl]; exact q_wr1
  rw [hw, if_neg (by decide)] at he hl'
  exact ⟨t', pt, hpt, he, hm, hl', hb⟩
theorem app3 {w : World} {t : Pm.T} {pm : Option Addr} (h : Mg w t) (hp : t.ptr = .pointer pm) (hl : t.list = abL) : Calls Tryz.prog 90 #[.agg #[.pointer pm], .agg #[.int .i64 3, .int .i64 0, .string ⟨#[97]⟩, .int .i64 1, .int .i64 0], .string ⟨#[99]⟩] w fun e w' => ∃ t' pt, t'.ptr = .pointer pt ∧ e = .returned (.tuple #[.agg #[.pointer pt], .int .i64 0]) ∧ Mg w' t' ∧ t'.list = abcL ∧ Below w.heap.size w w' := (appP (atS 3) tC h (n_abL hl) hp).mono fun e w' hh => by
  obtain ⟨t', pt, hpt, he, hm, hl', hb⟩ := hh
  have hw : okWr t.list (atS 3) tC = true := by rw [hl]; exact wr_3
  rw [hw, if_pos rfl] at he hl'
  exact ⟨t', pt, hpt, he, hm, hl'.trans (by rw [hl]; rfl), hb⟩
theorem app2 {w : World} {t : Pm.T} {pm : Option Addr} (h : Mg w t) (hp : t.ptr = .pointer pm) (hl : t.list = abL) : Calls Tryz.prog 90 #[.agg #[.pointer pm], .agg #[.int .i64 2, .int .i64 0, .string ⟨#[97]⟩, .int .i64 1, .int .i64 0], .string ⟨#[99]⟩] w fun e w' => ∃ t' pt, t'.ptr = .pointer pt ∧ e = .returned (.tuple #[.agg #[.pointer pt], .int .i64 2]) ∧ Mg w' t' ∧ t'.list = [] ∧ Below w.heap.size w w' := (appP (atS 2) tC h (n_abL hl) hp).mono fun e w' hh => by
  obtain ⟨t', pt, hpt, he, hm, hl', hb⟩ := hh
  have hw : okWr t.list (atS 2) tC = false := by rw [hl]; exact wr_2
  rw [hw, if_neg (by decide)] at he hl'
  exact ⟨t', pt, hpt, he, hm, hl', hb⟩
theorem atB {w : World} {t : Pm.T} {pm : Option Addr} (h : Mg w t) (hp : t.ptr = .pointer pm) (hl : t.list = abL) : Calls Tryz.prog 103 #[.agg #[.pointer pm], .int .i64 1] w fun e w' => e = .returned (.tuple #[.agg #[.int .i64 2, .int .i64 0, .string ⟨#[97]⟩, .int .i64 1, .int .i64 0, .string ⟨#[98]⟩], .bool true]) ∧ Below w.heap.size w w' := (jAt_any 1 h hp (by decide) (by decide)).mono fun e w' hh => by
  rw [hl, j_at1] at hh
  exact hh
theorem atZ {w : World} {t : Pm.T} {pm : Option Addr} (h : Mg w t) (hp : t.ptr = .pointer pm) (hl : t.list = abL) : Calls Tryz.prog 103 #[.agg #[.pointer pm], .int .i64 2] w fun e w' => e = .returned (.tuple #[.agg #[.int .i64 0, .int .i64 0, .string ⟨#[]⟩, .int .i64 0, .int .i64 0, .string ⟨#[]⟩], .bool false]) ∧ Below w.heap.size w w' := (jAt_any 2 h hp (by decide) (by decide)).mono fun e w' hh => by
  rw [hl, j_at2] at hh
  exact hh
theorem txABC {w : World} {t : Pm.T} {pm : Option Addr} (h : Mg w t) (hp : t.ptr = .pointer pm) (hl : t.list = abcL) : Calls Tryz.prog 101 #[.agg #[.pointer pm]] w fun e w' => ∃ ao c, e = .returned (.tuple #[.slice ao 3 c, .int .i64 0]) ∧ Rs w' ao [tA, tB, tC] ∧ Below w.heap.size w w' := (textsJ h hp).mono fun e w' hh => by
  obtain ⟨ao, c, he, hO, hb⟩ := hh
  rw [hl, j_txt] at he hO
  rw [q_may3, if_pos rfl] at he
  exact ⟨ao, c, he, hO.rs, hb⟩
theorem partP {w : World} {x y : Pm.T} {px py : Option Addr} {lx ly : List Kv} {B : Bool} (hx : Mg w x) (hpx : x.ptr = .pointer px) (hy : Mg w y) (hpy : y.ptr = .pointer py) (ex : x.list = lx) (ey : y.list = ly) (hB : (mayL lx && mayL ly && partF (elsL lx) (elsL ly)) = B) : Calls Tryz.prog 93 #[.agg #[.pointer px], .agg #[.pointer py]] w fun e w' => e = .returned (.bool B) ∧ Below w.heap.size w w' := (jPart_any hx hpx hy hpy).mono fun e w' hh => by
  rw [ex, ey, hB] at hh
  exact hh
theorem sinceB {w : World} {t : Pm.T} {pm : Option Addr} (hp : t.ptr = .pointer pm) : Calls Tryz.prog 105 #[.agg #[.pointer pm], .agg #[.int .i64 1, .int .i64 0, .string ⟨#[97]⟩, .int .i64 1, .int .i64 0]] w fun e w' => ∃ L Sb : Nat, e = .returned (.func (.func 162) #[] #[.pointer (some ⟨Sb, 0, none⟩), .pointer (some ⟨L, 0, none⟩)]) ∧ (w'.cell? ⟨L, 0, none⟩ = some (.pointer pm) ∧ L < w'.heap.size ∧ w'.heap[Sb]? = some (.cells #[.int .i64 1, .int .i64 0, .string ⟨#[97]⟩, .int .i64 1, .int .i64 0] 43 (0, 0))) ∧ Below w.heap.size w w' := by
  have := since105 t (atS 1) w
  unfold Pm.mv at this
  rw [hp] at this
  refine this.mono fun e w' hh => ?_
  obtain ⟨he, hw⟩ := hh
  refine ⟨_, _, he, ?_, by rw [hw]; exact ((Below.refl _ w).alloc (Nat.le_refl _) _).alloc (by simp) _⟩
  rw [hw]
  exact ⟨(cell_of_row _ _ 0 _ 27 (0, 0) (new2 w _ _).1).trans rfl, (by simp; omega), (new2 w _ _).2⟩
theorem goesB {w : World} {t : Pm.T} {pm : Option Addr} {L Sb b : Nat} (h : Mg w t) (hp : t.ptr = .pointer pm) (hl : t.list = abL) (hL : w.cell? ⟨L, 0, none⟩ = some (.pointer pm)) (hLt : L < w.heap.size) (hS : w.heap[Sb]? = some (.cells #[.int .i64 1, .int .i64 0, .string ⟨#[97]⟩, .int .i64 1, .int .i64 0] 43 (0, 0))) (hr : Re w (some ⟨b, 0, none⟩) [(atS 2, tB)]) : Calls Tryz.prog 104 #[.func (.func 162) #[] #[.pointer (some ⟨Sb, 0, none⟩), .pointer (some ⟨L, 0, none⟩)], .slice (some ⟨b, 0, none⟩) 1 1, .int .i64 0] w fun e w' => e = .returned (.bool true) ∧ Below w.heap.size w w' :=
  jgoes_all (sT := atS 1) (xs := [(atS 2, tB)]) h (by rw [hl, j_sin]) (by decide) (by rw [hp]; exact hL) hLt hS hr
theorem sameABC {w : World} {ao : Option Addr} {c b : Nat} (h : Rs w ao [tA, tB, tC]) (hb : w.heap[b]? = some (.cells #[.string tA, .string tB, .string tC] 9 (0, 0))) : Calls Tryz.prog 108 #[.slice ao 3 c, .slice (some ⟨b, 0, none⟩) 3 3] w fun e w' => e = .returned (.bool true) ∧ Below w.heap.size w w' := (sameTexts_any (c := c) (d := 3) (l := [tA, tB, tC]) (m := [tA, tB, tC]) h ⟨fun e => (by cases e), fun a ha j s hj => by
  cases ha
  rw [add_lit, cell_of_row _ _ (0 + j) _ 9 (0, 0) hb, Nat.zero_add]
  match j, hj with
  | 0, hj => simp at hj; subst hj; rfl
  | 1, hj => simp at hj; subst hj; rfl
  | 2, hj => simp at hj; subst hj; rfl
  | j + 3, hj => simp at hj⟩ (by decide) (by decide)).mono fun e w' hh => by
  obtain ⟨he, n, hw⟩ := hh
  exact ⟨by rw [he]; simp, by rw [hw]; exact below_drew w n⟩
theorem exec_bs3 {a : Act} {T : TypeId} (w : World) : (execOp a.eval { dst := none, op := Op.buildSlice 63 3 #[(0, Operand.const (Value.string { data := #[97] })), (1, Operand.const (Value.string { data := #[98] })), (2, Operand.const (Value.string { data := #[99] }))], type := T, pos := "", after := #[], guard := none }).run Tryz.prog w = .ok (.value (.slice (some ⟨w.heap.size, 0, none⟩) 3 3)) (w.alloc (.cells #[.string tA, .string tB, .string tC] 9)) := by
  unfold execOp
  go_simp
set_option maxHeartbeats 16000000 in
set_option maxRecDepth 100000 in
theorem known84 (w : World) : Calls Tryz.prog 84 #[] w fun e w' => e = .returned (.bool true) ∧ Below w.heap.size w w' := by
  have hat := fun (g : Int) (x : ByteArray) W => jat46 g x W
  have hnm := fun (n : Int) W => jnum35 n W
  have HB : Hid (Below w.heap.size w w) := hide (Below.refl _ _)
  go_enter Tryz.func84, Tryz.ntmps84
  go_upto_region 2 with (first
    | (go_at_call 102; refine (hat _ _ _).mono ?_; rintro e w1 ⟨rfl, b1⟩; replace HB := hide (HB.out.trans (b1.mono HB.out.size)); clear b1; dsimp only)
    | (go_at_call 85; refine (ofABj w1.heap.size _ (heap_alloc_new w1 _)).mono ?_; rintro e w3 ⟨t, pm, rfl, hpm, mg, hl, b3⟩; replace HB := hide (HB.out.trans (((((Below.refl _ w1).alloc (Nat.le_refl _) _).trans (b3.mono (by simp))).mono HB.out.size))); have H3 := hide (And.intro hpm (And.intro mg hl)); clear b3 hpm mg hl; dsimp only))
  obtain ⟨hpm, mg, hl⟩ := H3.out
  obtain ⟨Mb, hMb⟩ : ∃ q, q = w3.heap.size := ⟨_, rfl⟩
  obtain ⟨W1, hW1⟩ : ∃ q, q = w3.alloc (.cells #[.pointer pm] 27) := ⟨_, rfl⟩
  have b31 : Below w3.heap.size w3 W1 := by rw [hW1]; exact (Below.refl _ w3).alloc (Nat.le_refl _) _
  have BX : Boxd W1 Mb pm t := ⟨by rw [hW1, hMb]; exact heap_alloc_new w3 _, hpm, mg.below b31⟩
  replace HB := hide (HB.out.trans (b31.mono HB.out.size))
  rw [← hW1, ← hMb]
  clear hMb hW1 b31 mg H3
  have cM := BX.cell
  have HBX := hide BX
  have HL := hide hl
  have HPM := hide hpm
  clear BX hl hpm
  have hf1 := atB HBX.out.2.2 HPM.out HL.out
  go_upto_region 3 with (go_at_call 103; refine hf1.mono ?_; rintro e w4 ⟨rfl, b4⟩; replace HB := hide (HB.out.trans (b4.mono HB.out.size)); replace HBX := hide (HBX.out.below b4); clear b4; dsimp only)
  obtain ⟨Xb, hXb⟩ : ∃ q, q = w4.heap.size := ⟨_, rfl⟩
  obtain ⟨w5, hw5⟩ : ∃ q, q = w4.alloc (.cells #[.int .i64 2, .int .i64 0, .string ⟨#[97]⟩, .int .i64 1, .int .i64 0, .string ⟨#[98]⟩] 53) := ⟨_, rfl⟩
  have b45 : Below w4.heap.size w4 w5 := by rw [hw5]; exact (Below.refl _ w4).alloc (Nat.le_refl _) _
  have HX : Hid (w5.heap[Xb]? = some (.cells #[.int .i64 2, .int .i64 0, .string ⟨#[97]⟩, .int .i64 1, .int .i64 0, .string ⟨#[98]⟩] 53 (0, 0))) := hide (by rw [hw5, hXb]; exact heap_alloc_new w4 _)
  replace HB := hide (HB.out.trans (b45.mono HB.out.size)); replace HBX := hide (HBX.out.below b45)
  rw [← hw5, ← hXb]
  clear hf1 cM hXb hw5 b45
  have cM := HBX.out.cell
  have hf2 := atZ HBX.out.2.2 HPM.out HL.out
  go_upto_region 4 with (go_at_call 103; refine hf2.mono ?_; rintro e w6 ⟨rfl, b6⟩; replace HB := hide (HB.out.trans (b6.mono HB.out.size)); replace HBX := hide (HBX.out.below b6); replace HX := hide ((b6.block _ (gI HX.out).1).trans HX.out); clear b6; dsimp only)
  obtain ⟨w7, hw7⟩ : ∃ q, q = w6.alloc (.cells #[.int .i64 0, .int .i64 0, .string ⟨#[]⟩, .int .i64 0, .int .i64 0, .string ⟨#[]⟩] 53) := ⟨_, rfl⟩
  have b67 : Below w6.heap.size w6 w7 := by rw [hw7]; exact (Below.refl _ w6).alloc (Nat.le_refl _) _
  replace HB := hide (HB.out.trans (b67.mono HB.out.size)); replace HBX := hide (HBX.out.below b67); replace HX := hide ((b67.block _ (gI HX.out).1).trans HX.out)
  rw [← hw7]
  clear hf2 cM hw7 b67
  have HLT : Hid (Mb < w7.heap.size) := hide (gI HBX.out.1).1
  go_cut [7, 8, 34, 35, 36, 37, 38, 39, 40] (fun v7 v8 v34 v35 v36 v37 v38 v39 v40 wq => ∃ (Nb : Nat) (pt : Option Addr) (t' : Pm.T), v7 = .pointer (some ⟨Nb, 0, none⟩) ∧ v8 = .int .i64 2 ∧ Hid (Boxd wq Nb pt t' ∧ t'.list = [] ∧ Below w7.heap.size w7 wq))
  case first =>
    as_aux_lemma =>
      have hW : ∀ W', Below w7.heap.size w7 W' → Calls Tryz.prog 90 #[.agg #[.pointer pm], .agg #[.int .i64 1, .int .i64 0, .string ⟨#[97]⟩, .int .i64 1, .int .i64 0], .string ⟨#[99]⟩] W' _ := fun W' hb => app1 (HBX.out.2.2.below hb) HPM.out HL.out
      clear hat hnm
      have qd : w7.drew.cell? ⟨Mb, 0, none⟩ = some (.pointer pm) := HBX.out.cell
      have b0 : Below w7.heap.size w7 w7.drew := drew_below w7
      refine wp_region_held_drew (S := fun w' => w'.cell? ⟨Mb, 0, none⟩ = some (.pointer pm)) (by kernel_rfl) qd (fun hHeld => ?_)
      clear qd
      obtain ⟨Wd, hWd⟩ : ∃ Wd, Wd = w7.drew := ⟨_, rfl⟩
      rw [← hWd] at hHeld b0 ⊢
      clear hWd
      refine take_op (i := 0) (d := 35) (OP := Op.load 27 (Operand.tmp 1)) (T := 27) (v := ?v1) rfl rfl rfl rfl (by kernel_rfl) (by kernel_rfl) (by kernel_rfl) (fun _ _ _ h => h) (by rfl) ?h1 hHeld ?r1
      case h1 => (intro w' hSw; (try dsimp only at hSw); go_simp <;> with_reducible rfl)
      try simp only [Act.put, sI, sZ, sS]
      obtain ⟨y1, ey1⟩ : ∃ q, q = Wd.alloc (.cells #[.pointer none] 27) := ⟨_, rfl⟩
      have ry1 : y1.heap[Wd.heap.size]? = some (.cells #[.pointer none] 27 (0, 0)) := by rw [ey1]; exact heap_alloc_new Wd _
      have by1 : Below Wd.heap.size Wd y1 := by rw [ey1]; exact (Below.refl _ Wd).alloc (Nat.le_refl _) _
      have hy1 : y1.cell? ⟨Mb, 0, none⟩ = some (.pointer pm) := cell_stays hHeld by1
      have bby1 := b0.trans (by1.mono b0.size)
      refine call_turn_op (i := 1) (di := 36) (OPi := Op.call { callee := Callee.value (Operand.func 102), args := #[Operand.const (Value.int IntKind.i64 1), Operand.const (Value.string { data := #[] })], argTypes := #[2, 9] }) (Ti := 53) (j := 7) (dj := 7) (OPj := Op.alloc 27) (Tj := 0) (f := 102) (args := #[.int .i64 1, .string ⟨#[]⟩]) (u := .pointer (some ⟨Wd.heap.size, 0, none⟩)) (w' := y1) rfl rfl rfl rfl rfl rfl rfl rfl (by kernel_rfl) (by rfl) (by rfl) (by go_simp) (by rw [ey1]; exact exec_al27 Wd) hy1 ?_ ?_
      · refine (jat46 1 ⟨#[]⟩ _).mono ?_
        rintro e z1 ⟨rfl, bz1⟩
        have hz1 : z1.cell? ⟨Mb, 0, none⟩ = some (.pointer pm) := cell_stays hHeld bz1
        have bbz1 := b0.trans (bz1.mono b0.size)
        refine ⟨_, rfl, hz1, ?_⟩
        try simp only [Act.put, sI, sZ, sS]
        refine take_op (i := 2) (d := 37) (OP := Op.field 53 (Operand.tmp 36) 0) (T := 43) (v := .agg #[.int .i64 1, .int .i64 0, .string ⟨#[97]⟩, .int .i64 1, .int .i64 0]) rfl rfl rfl rfl (by kernel_rfl) (by kernel_rfl) (by kernel_rfl) (fun _ _ _ h => h) (by rfl) ?h2 hz1 ?r2
        case h2 => (intro w' hSw; exact exec_fld53 rfl)
        try simp only [Act.put, sI, sZ, sS]
        obtain ⟨y2, ey2⟩ : ∃ q, q = z1.alloc (.cells #[.pointer none] 27) := ⟨_, rfl⟩
        have ry2 : y2.heap[z1.heap.size]? = some (.cells #[.pointer none] 27 (0, 0)) := by rw [ey2]; exact heap_alloc_new z1 _
        have by2 : Below z1.heap.size z1 y2 := by rw [ey2]; exact (Below.refl _ z1).alloc (Nat.le_refl _) _
        have hy2 : y2.cell? ⟨Mb, 0, none⟩ = some (.pointer pm) := cell_stays hz1 by2
        have bby2 := bbz1.trans (by2.mono bbz1.size)
        refine call_turn_op (i := 3) (di := 38) (OPi := Op.call { callee := Callee.value (Operand.func 90), args := #[Operand.tmp 35, Operand.tmp 37, Operand.const (Value.string { data := #[99] })], argTypes := #[27, 43, 9] }) (Ti := 29) (j := 7) (dj := 7) (OPj := Op.alloc 27) (Tj := 0) (f := 90) (args := #[.agg #[.pointer pm], .agg #[.int .i64 1, .int .i64 0, .string ⟨#[97]⟩, .int .i64 1, .int .i64 0], .string ⟨#[99]⟩]) (u := .pointer (some ⟨z1.heap.size, 0, none⟩)) (w' := y2) rfl rfl rfl rfl rfl rfl rfl rfl (by kernel_rfl) (by rfl) (by rfl) (by go_simp) (by rw [ey2]; exact exec_al27 z1) hy2 ?_ ?_
        · refine (hW  _ bbz1).mono ?_
          rintro e z2 ⟨t', pt, hpt, rfl, mg', hl', bz2⟩
          have hz2 : z2.cell? ⟨Mb, 0, none⟩ = some (.pointer pm) := cell_stays hz1 bz2
          have bbz2 := bbz1.trans (bz2.mono bbz1.size)
          refine ⟨_, rfl, hz2, ?_⟩
          try simp only [Act.put, sI, sZ, sS]
          refine take_op (i := 4) (d := 34) (OP := Op.move (Operand.tmp 38)) (T := 29) (v := ?v3) rfl rfl rfl rfl (by kernel_rfl) (by kernel_rfl) (by kernel_rfl) (fun _ _ _ h => h) (by rfl) ?h3 hz2 ?r3
          case h3 => (intro w' hSw; (try dsimp only at hSw); go_simp <;> with_reducible rfl)
          try simp only [Act.put, sI, sZ, sS]
          refine take_op (i := 5) (d := 39) (OP := Op.extract (Operand.tmp 34) 0) (T := 27) (v := ?v4) rfl rfl rfl rfl (by kernel_rfl) (by kernel_rfl) (by kernel_rfl) (fun _ _ _ h => h) (by rfl) ?h4 hz2 ?r4
          case h4 => (intro w' hSw; (try dsimp only at hSw); go_simp <;> with_reducible rfl)
          try simp only [Act.put, sI, sZ, sS]
          refine take_op (i := 6) (d := 40) (OP := Op.extract (Operand.tmp 34) 1) (T := 28) (v := ?v5) rfl rfl rfl rfl (by kernel_rfl) (by kernel_rfl) (by kernel_rfl) (fun _ _ _ h => h) (by rfl) ?h5 hz2 ?r5
          case h5 => (intro w' hSw; (try dsimp only at hSw); go_simp <;> with_reducible rfl)
          try simp only [Act.put, sI, sZ, sS]
          obtain ⟨z3, ez3⟩ : ∃ q, q = z2.alloc (.cells #[.pointer none] 27) := ⟨_, rfl⟩
          have rz3 : z3.heap[z2.heap.size]? = some (.cells #[.pointer none] 27 (0, 0)) := by rw [ez3]; exact heap_alloc_new z2 _
          have bz3 : Below z2.heap.size z2 z3 := by rw [ez3]; exact (Below.refl _ z2).alloc (Nat.le_refl _) _
          have hz3 : z3.cell? ⟨Mb, 0, none⟩ = some (.pointer pm) := cell_stays hz2 bz3
          have bbz3 := bbz2.trans (bz3.mono bbz2.size)
          refine turn_op (i := 7) (d := 7) (OP := Op.alloc 27) (T := 0) (v := .pointer (some ⟨z2.heap.size, 0, none⟩)) (w' := z3) rfl rfl rfl rfl (by kernel_rfl) (by rfl) (by rw [ez3]; exact exec_al27 z2) hz3 ?_
          try simp only [Act.put, sI, sZ, sS]
          obtain ⟨u9, o9⟩ := set_one (i := 0) (.pointer pt) rz3
          have hM9 : (z3.setCell ⟨z2.heap.size, 0, none⟩ (.pointer pt)).cell? ⟨Mb, 0, none⟩ = some (.pointer pm) := o9.cell hz3 (by simp only; have := HLT.out; have := bbz2.size; omega)
          refine skip_op (i := 8) (OP := Op.store 27 (Operand.tmp 7) (Operand.tmp 39)) (T := 0) (w' := z3.setCell ⟨z2.heap.size, 0, none⟩ (.pointer pt)) rfl rfl rfl rfl (by kernel_rfl) (by rfl) (exec_st27 rfl rfl ((cell_of_row _ _ 0 _ 27 (0, 0) rz3).trans rfl) (frozen_of_row _ _ 0 _ 27 rz3)) ⟨hM9, ?_⟩
          try simp only [Act.put, sI, sZ, sS]
          refine take_op (i := 9) (d := 8) (OP := Op.assign (Operand.tmp 40)) (T := 28) (v := ?v6) rfl rfl rfl rfl (by kernel_rfl) (by kernel_rfl) (by kernel_rfl) (fun _ _ _ h => h) (by rfl) ?h6 hM9 ?r6
          case h6 => (intro w' hSw; (try dsimp only at hSw); go_simp <;> with_reducible rfl)
          try simp only [Act.put, sI, sZ, sS]
          refine wpAnyH_done (by kernel_rfl) ?_ _
          have mg9 := (mg'.below bz3).aside rz3 o9
          have bl9 := Below.only bbz3 o9 bbz3.size (fun k e => by have e' : k = z2.heap.size := e; have := bbz2.size; omega)
          have HE9 := hide (And.intro u9 (And.intro hpt (And.intro mg9 (And.intro hl' bl9))))
          clear mg9 bl9 hpt hl' u9 o9
          go_wp2
          go_meet
          obtain ⟨u9, hpt, mg9, hl', bl9⟩ := HE9.out
          exact ⟨z2.heap.size, pt, t', rfl, rfl, hide ⟨⟨by simpa using u9, hpt, mg9⟩, hl', bl9⟩⟩
        · try simp only [Act.put, sI, sZ, sS]
          refine call_op (i := 3) (d := 38) (OP := Op.call { callee := Callee.value (Operand.func 90), args := #[Operand.tmp 35, Operand.tmp 37, Operand.const (Value.string { data := #[99] })], argTypes := #[27, 43, 9] }) (T := 29) (f := 90) (args := #[.agg #[.pointer pm], .agg #[.int .i64 1, .int .i64 0, .string ⟨#[97]⟩, .int .i64 1, .int .i64 0], .string ⟨#[99]⟩]) rfl rfl rfl rfl (by kernel_rfl) (by rfl) (by go_simp) ?_
          refine (hW  _ bby2).mono ?_
          rintro e z4 ⟨t', pt, hpt, rfl, mg', hl', bz4⟩
          have hz4 : z4.cell? ⟨Mb, 0, none⟩ = some (.pointer pm) := cell_stays hy2 bz4
          have bbz4 := bby2.trans (bz4.mono bby2.size)
          refine ⟨_, rfl, hz4, ?_⟩
          try simp only [Act.put, sI, sZ, sS]
          have rz4 := (bz4.block _ (gI ry2).1).trans ry2
          refine take_op (i := 4) (d := 34) (OP := Op.move (Operand.tmp 38)) (T := 29) (v := ?v7) rfl rfl rfl rfl (by kernel_rfl) (by kernel_rfl) (by kernel_rfl) (fun _ _ _ h => h) (by rfl) ?h7 hz4 ?r7
          case h7 => (intro w' hSw; (try dsimp only at hSw); go_simp <;> with_reducible rfl)
          try simp only [Act.put, sI, sZ, sS]
          refine take_op (i := 5) (d := 39) (OP := Op.extract (Operand.tmp 34) 0) (T := 27) (v := ?v8) rfl rfl rfl rfl (by kernel_rfl) (by kernel_rfl) (by kernel_rfl) (fun _ _ _ h => h) (by rfl) ?h8 hz4 ?r8
          case h8 => (intro w' hSw; (try dsimp only at hSw); go_simp <;> with_reducible rfl)
          try simp only [Act.put, sI, sZ, sS]
          refine take_op (i := 6) (d := 40) (OP := Op.extract (Operand.tmp 34) 1) (T := 28) (v := ?v9) rfl rfl rfl rfl (by kernel_rfl) (by kernel_rfl) (by kernel_rfl) (fun _ _ _ h => h) (by rfl) ?h9 hz4 ?r9
          case h9 => (intro w' hSw; (try dsimp only at hSw); go_simp <;> with_reducible rfl)
          try simp only [Act.put, sI, sZ, sS]
          obtain ⟨u9, o9⟩ := set_one (i := 0) (.pointer pt) rz4
          have hM9 : (z4.setCell ⟨z1.heap.size, 0, none⟩ (.pointer pt)).cell? ⟨Mb, 0, none⟩ = some (.pointer pm) := o9.cell hz4 (by simp only; have := HLT.out; have := bbz1.size; omega)
          refine skip_op (i := 8) (OP := Op.store 27 (Operand.tmp 7) (Operand.tmp 39)) (T := 0) (w' := z4.setCell ⟨z1.heap.size, 0, none⟩ (.pointer pt)) rfl rfl rfl rfl (by kernel_rfl) (by rfl) (exec_st27 rfl rfl ((cell_of_row _ _ 0 _ 27 (0, 0) rz4).trans rfl) (frozen_of_row _ _ 0 _ 27 rz4)) ⟨hM9, ?_⟩
          try simp only [Act.put, sI, sZ, sS]
          refine take_op (i := 9) (d := 8) (OP := Op.assign (Operand.tmp 40)) (T := 28) (v := ?v10) rfl rfl rfl rfl (by kernel_rfl) (by kernel_rfl) (by kernel_rfl) (fun _ _ _ h => h) (by rfl) ?h10 hM9 ?r10
          case h10 => (intro w' hSw; (try dsimp only at hSw); go_simp <;> with_reducible rfl)
          try simp only [Act.put, sI, sZ, sS]
          refine wpAnyH_done (by kernel_rfl) ?_ _
          have mg9 := mg'.aside rz4 o9
          have bl9 := Below.only bbz4 o9 bbz4.size (fun k e => by have e' : k = z1.heap.size := e; have := bbz1.size; omega)
          have HE9 := hide (And.intro u9 (And.intro hpt (And.intro mg9 (And.intro hl' bl9))))
          clear mg9 bl9 hpt hl' u9 o9
          go_wp2
          go_meet
          obtain ⟨u9, hpt, mg9, hl', bl9⟩ := HE9.out
          exact ⟨z1.heap.size, pt, t', rfl, rfl, hide ⟨⟨by simpa using u9, hpt, mg9⟩, hl', bl9⟩⟩
      · try simp only [Act.put, sI, sZ, sS]
        refine call_op (i := 1) (d := 36) (OP := Op.call { callee := Callee.value (Operand.func 102), args := #[Operand.const (Value.int IntKind.i64 1), Operand.const (Value.string { data := #[] })], argTypes := #[2, 9] }) (T := 53) (f := 102) (args := #[.int .i64 1, .string ⟨#[]⟩]) rfl rfl rfl rfl (by kernel_rfl) (by rfl) (by go_simp) ?_
        refine (jat46 1 ⟨#[]⟩ _).mono ?_
        rintro e z5 ⟨rfl, bz5⟩
        have hz5 : z5.cell? ⟨Mb, 0, none⟩ = some (.pointer pm) := cell_stays hy1 bz5
        have bbz5 := bby1.trans (bz5.mono bby1.size)
        refine ⟨_, rfl, hz5, ?_⟩
        try simp only [Act.put, sI, sZ, sS]
        refine take_op (i := 2) (d := 37) (OP := Op.field 53 (Operand.tmp 36) 0) (T := 43) (v := .agg #[.int .i64 1, .int .i64 0, .string ⟨#[97]⟩, .int .i64 1, .int .i64 0]) rfl rfl rfl rfl (by kernel_rfl) (by kernel_rfl) (by kernel_rfl) (fun _ _ _ h => h) (by rfl) ?h11 hz5 ?r11
        case h11 => (intro w' hSw; exact exec_fld53 rfl)
        try simp only [Act.put, sI, sZ, sS]
        refine call_op (i := 3) (d := 38) (OP := Op.call { callee := Callee.value (Operand.func 90), args := #[Operand.tmp 35, Operand.tmp 37, Operand.const (Value.string { data := #[99] })], argTypes := #[27, 43, 9] }) (T := 29) (f := 90) (args := #[.agg #[.pointer pm], .agg #[.int .i64 1, .int .i64 0, .string ⟨#[97]⟩, .int .i64 1, .int .i64 0], .string ⟨#[99]⟩]) rfl rfl rfl rfl (by kernel_rfl) (by rfl) (by go_simp) ?_
        refine (hW  _ bbz5).mono ?_
        rintro e z6 ⟨t', pt, hpt, rfl, mg', hl', bz6⟩
        have hz6 : z6.cell? ⟨Mb, 0, none⟩ = some (.pointer pm) := cell_stays hz5 bz6
        have bbz6 := bbz5.trans (bz6.mono bbz5.size)
        refine ⟨_, rfl, hz6, ?_⟩
        try simp only [Act.put, sI, sZ, sS]
        have rz6 := (bz6.block _ (gI ((bz5.block _ (gI ry1).1).trans ry1)).1).trans ((bz5.block _ (gI ry1).1).trans ry1)
        refine take_op (i := 4) (d := 34) (OP := Op.move (Operand.tmp 38)) (T := 29) (v := ?v12) rfl rfl rfl rfl (by kernel_rfl) (by kernel_rfl) (by kernel_rfl) (fun _ _ _ h => h) (by rfl) ?h12 hz6 ?r12
        case h12 => (intro w' hSw; (try dsimp only at hSw); go_simp <;> with_reducible rfl)
        try simp only [Act.put, sI, sZ, sS]
        refine take_op (i := 5) (d := 39) (OP := Op.extract (Operand.tmp 34) 0) (T := 27) (v := ?v13) rfl rfl rfl rfl (by kernel_rfl) (by kernel_rfl) (by kernel_rfl) (fun _ _ _ h => h) (by rfl) ?h13 hz6 ?r13
        case h13 => (intro w' hSw; (try dsimp only at hSw); go_simp <;> with_reducible rfl)
        try simp only [Act.put, sI, sZ, sS]
        refine take_op (i := 6) (d := 40) (OP := Op.extract (Operand.tmp 34) 1) (T := 28) (v := ?v14) rfl rfl rfl rfl (by kernel_rfl) (by kernel_rfl) (by kernel_rfl) (fun _ _ _ h => h) (by rfl) ?h14 hz6 ?r14
        case h14 => (intro w' hSw; (try dsimp only at hSw); go_simp <;> with_reducible rfl)
        try simp only [Act.put, sI, sZ, sS]
        obtain ⟨u9, o9⟩ := set_one (i := 0) (.pointer pt) rz6
        have hM9 : (z6.setCell ⟨Wd.heap.size, 0, none⟩ (.pointer pt)).cell? ⟨Mb, 0, none⟩ = some (.pointer pm) := o9.cell hz6 (by simp only; have := HLT.out; have := b0.size; omega)
        refine skip_op (i := 8) (OP := Op.store 27 (Operand.tmp 7) (Operand.tmp 39)) (T := 0) (w' := z6.setCell ⟨Wd.heap.size, 0, none⟩ (.pointer pt)) rfl rfl rfl rfl (by kernel_rfl) (by rfl) (exec_st27 rfl rfl ((cell_of_row _ _ 0 _ 27 (0, 0) rz6).trans rfl) (frozen_of_row _ _ 0 _ 27 rz6)) ⟨hM9, ?_⟩
        try simp only [Act.put, sI, sZ, sS]
        refine take_op (i := 9) (d := 8) (OP := Op.assign (Operand.tmp 40)) (T := 28) (v := ?v15) rfl rfl rfl rfl (by kernel_rfl) (by kernel_rfl) (by kernel_rfl) (fun _ _ _ h => h) (by rfl) ?h15 hM9 ?r15
        case h15 => (intro w' hSw; (try dsimp only at hSw); go_simp <;> with_reducible rfl)
        try simp only [Act.put, sI, sZ, sS]
        refine wpAnyH_done (by kernel_rfl) ?_ _
        have mg9 := mg'.aside rz6 o9
        have bl9 := Below.only bbz6 o9 bbz6.size (fun k e => by have e' : k = Wd.heap.size := e; have := b0.size; omega)
        have HE9 := hide (And.intro u9 (And.intro hpt (And.intro mg9 (And.intro hl' bl9))))
        clear mg9 bl9 hpt hl' u9 o9
        go_wp2
        go_meet
        obtain ⟨u9, hpt, mg9, hl', bl9⟩ := HE9.out
        exact ⟨Wd.heap.size, pt, t', rfl, rfl, hide ⟨⟨by simpa using u9, hpt, mg9⟩, hl', bl9⟩⟩
  case rest =>
    obtain ⟨_, _, _, rfl, rfl, HQ⟩ := hcut
    have b5c := HQ.out.2.2
    replace HB := hide (HB.out.trans (b5c.mono HB.out.size)); replace HBX := hide (HBX.out.below b5c); replace HX := hide ((b5c.block _ (gI HX.out).1).trans HX.out)
    clear b5c HLT HQ
    obtain ⟨w8, hw8⟩ : ∃ q, wc = q := ⟨_, rfl⟩
    rw [hw8] at HB HBX HX ⊢
    clear hw8
    have HLT : Hid (Mb < w8.heap.size) := hide (gI HBX.out.1).1
    go_upto_region 5 with fail
    go_cut [9, 10, 41, 42, 43, 44, 45, 46, 47] (fun v9 v10 v41 v42 v43 v44 v45 v46 v47 wq => ∃ (Nb : Nat) (pt : Option Addr) (t' : Pm.T), v9 = .pointer (some ⟨Nb, 0, none⟩) ∧ v10 = .int .i64 0 ∧ Hid (Boxd wq Nb pt t' ∧ t'.list = abcL ∧ Below w8.heap.size w8 wq))
    case first =>
      as_aux_lemma =>
        have hW : ∀ W', Below w8.heap.size w8 W' → Calls Tryz.prog 90 #[.agg #[.pointer pm], .agg #[.int .i64 3, .int .i64 0, .string ⟨#[97]⟩, .int .i64 1, .int .i64 0], .string ⟨#[99]⟩] W' _ := fun W' hb => app3 (HBX.out.2.2.below hb) HPM.out HL.out
        clear hat hnm
        have qd : w8.drew.cell? ⟨Mb, 0, none⟩ = some (.pointer pm) := HBX.out.cell
        have b0 : Below w8.heap.size w8 w8.drew := drew_below w8
        refine wp_region_held_drew (S := fun w' => w'.cell? ⟨Mb, 0, none⟩ = some (.pointer pm)) (by kernel_rfl) qd (fun hHeld => ?_)
        clear qd
        obtain ⟨Wd, hWd⟩ : ∃ Wd, Wd = w8.drew := ⟨_, rfl⟩
        rw [← hWd] at hHeld b0 ⊢
        clear hWd
        refine take_op (i := 0) (d := 42) (OP := Op.load 27 (Operand.tmp 1)) (T := 27) (v := ?v16) rfl rfl rfl rfl (by kernel_rfl) (by kernel_rfl) (by kernel_rfl) (fun _ _ _ h => h) (by rfl) ?h16 hHeld ?r16
        case h16 => (intro w' hSw; (try dsimp only at hSw); go_simp <;> with_reducible rfl)
        try simp only [Act.put, sI, sZ, sS]
        obtain ⟨y1, ey1⟩ : ∃ q, q = Wd.alloc (.cells #[.pointer none] 27) := ⟨_, rfl⟩
        have ry1 : y1.heap[Wd.heap.size]? = some (.cells #[.pointer none] 27 (0, 0)) := by rw [ey1]; exact heap_alloc_new Wd _
        have by1 : Below Wd.heap.size Wd y1 := by rw [ey1]; exact (Below.refl _ Wd).alloc (Nat.le_refl _) _
        have hy1 : y1.cell? ⟨Mb, 0, none⟩ = some (.pointer pm) := cell_stays hHeld by1
        have bby1 := b0.trans (by1.mono b0.size)
        refine call_turn_op (i := 1) (di := 43) (OPi := Op.call { callee := Callee.value (Operand.func 102), args := #[Operand.const (Value.int IntKind.i64 3), Operand.const (Value.string { data := #[] })], argTypes := #[2, 9] }) (Ti := 53) (j := 7) (dj := 9) (OPj := Op.alloc 27) (Tj := 0) (f := 102) (args := #[.int .i64 3, .string ⟨#[]⟩]) (u := .pointer (some ⟨Wd.heap.size, 0, none⟩)) (w' := y1) rfl rfl rfl rfl rfl rfl rfl rfl (by kernel_rfl) (by rfl) (by rfl) (by go_simp) (by rw [ey1]; exact exec_al27 Wd) hy1 ?_ ?_
        · refine (jat46 3 ⟨#[]⟩ _).mono ?_
          rintro e z1 ⟨rfl, bz1⟩
          have hz1 : z1.cell? ⟨Mb, 0, none⟩ = some (.pointer pm) := cell_stays hHeld bz1
          have bbz1 := b0.trans (bz1.mono b0.size)
          refine ⟨_, rfl, hz1, ?_⟩
          try simp only [Act.put, sI, sZ, sS]
          refine take_op (i := 2) (d := 44) (OP := Op.field 53 (Operand.tmp 43) 0) (T := 43) (v := .agg #[.int .i64 3, .int .i64 0, .string ⟨#[97]⟩, .int .i64 1, .int .i64 0]) rfl rfl rfl rfl (by kernel_rfl) (by kernel_rfl) (by kernel_rfl) (fun _ _ _ h => h) (by rfl) ?h17 hz1 ?r17
          case h17 => (intro w' hSw; exact exec_fld53 rfl)
          try simp only [Act.put, sI, sZ, sS]
          obtain ⟨y2, ey2⟩ : ∃ q, q = z1.alloc (.cells #[.pointer none] 27) := ⟨_, rfl⟩
          have ry2 : y2.heap[z1.heap.size]? = some (.cells #[.pointer none] 27 (0, 0)) := by rw [ey2]; exact heap_alloc_new z1 _
          have by2 : Below z1.heap.size z1 y2 := by rw [ey2]; exact (Below.refl _ z1).alloc (Nat.le_refl _) _
          have hy2 : y2.cell? ⟨Mb, 0, none⟩ = some (.pointer pm) := cell_stays hz1 by2
          have bby2 := bbz1.trans (by2.mono bbz1.size)
          refine call_turn_op (i := 3) (di := 45) (OPi := Op.call { callee := Callee.value (Operand.func 90), args := #[Operand.tmp 42, Operand.tmp 44, Operand.const (Value.string { data := #[99] })], argTypes := #[27, 43, 9] }) (Ti := 29) (j := 7) (dj := 9) (OPj := Op.alloc 27) (Tj := 0) (f := 90) (args := #[.agg #[.pointer pm], .agg #[.int .i64 3, .int .i64 0, .string ⟨#[97]⟩, .int .i64 1, .int .i64 0], .string ⟨#[99]⟩]) (u := .pointer (some ⟨z1.heap.size, 0, none⟩)) (w' := y2) rfl rfl rfl rfl rfl rfl rfl rfl (by kernel_rfl) (by rfl) (by rfl) (by go_simp) (by rw [ey2]; exact exec_al27 z1) hy2 ?_ ?_
          · refine (hW  _ bbz1).mono ?_
            rintro e z2 ⟨t', pt, hpt, rfl, mg', hl', bz2⟩
            have hz2 : z2.cell? ⟨Mb, 0, none⟩ = some (.pointer pm) := cell_stays hz1 bz2
            have bbz2 := bbz1.trans (bz2.mono bbz1.size)
            refine ⟨_, rfl, hz2, ?_⟩
            try simp only [Act.put, sI, sZ, sS]
            refine take_op (i := 4) (d := 41) (OP := Op.move (Operand.tmp 45)) (T := 29) (v := ?v18) rfl rfl rfl rfl (by kernel_rfl) (by kernel_rfl) (by kernel_rfl) (fun _ _ _ h => h) (by rfl) ?h18 hz2 ?r18
            case h18 => (intro w' hSw; (try dsimp only at hSw); go_simp <;> with_reducible rfl)
            try simp only [Act.put, sI, sZ, sS]
            refine take_op (i := 5) (d := 46) (OP := Op.extract (Operand.tmp 41) 0) (T := 27) (v := ?v19) rfl rfl rfl rfl (by kernel_rfl) (by kernel_rfl) (by kernel_rfl) (fun _ _ _ h => h) (by rfl) ?h19 hz2 ?r19
            case h19 => (intro w' hSw; (try dsimp only at hSw); go_simp <;> with_reducible rfl)
            try simp only [Act.put, sI, sZ, sS]
            refine take_op (i := 6) (d := 47) (OP := Op.extract (Operand.tmp 41) 1) (T := 28) (v := ?v20) rfl rfl rfl rfl (by kernel_rfl) (by kernel_rfl) (by kernel_rfl) (fun _ _ _ h => h) (by rfl) ?h20 hz2 ?r20
            case h20 => (intro w' hSw; (try dsimp only at hSw); go_simp <;> with_reducible rfl)
            try simp only [Act.put, sI, sZ, sS]
            obtain ⟨z3, ez3⟩ : ∃ q, q = z2.alloc (.cells #[.pointer none] 27) := ⟨_, rfl⟩
            have rz3 : z3.heap[z2.heap.size]? = some (.cells #[.pointer none] 27 (0, 0)) := by rw [ez3]; exact heap_alloc_new z2 _
            have bz3 : Below z2.heap.size z2 z3 := by rw [ez3]; exact (Below.refl _ z2).alloc (Nat.le_refl _) _
            have hz3 : z3.cell? ⟨Mb, 0, none⟩ = some (.pointer pm) := cell_stays hz2 bz3
            have bbz3 := bbz2.trans (bz3.mono bbz2.size)
            refine turn_op (i := 7) (d := 9) (OP := Op.alloc 27) (T := 0) (v := .pointer (some ⟨z2.heap.size, 0, none⟩)) (w' := z3) rfl rfl rfl rfl (by kernel_rfl) (by rfl) (by rw [ez3]; exact exec_al27 z2) hz3 ?_
            try simp only [Act.put, sI, sZ, sS]
            obtain ⟨u9, o9⟩ := set_one (i := 0) (.pointer pt) rz3
            have hM9 : (z3.setCell ⟨z2.heap.size, 0, none⟩ (.pointer pt)).cell? ⟨Mb, 0, none⟩ = some (.pointer pm) := o9.cell hz3 (by simp only; have := HLT.out; have := bbz2.size; omega)
            refine skip_op (i := 8) (OP := Op.store 27 (Operand.tmp 9) (Operand.tmp 46)) (T := 0) (w' := z3.setCell ⟨z2.heap.size, 0, none⟩ (.pointer pt)) rfl rfl rfl rfl (by kernel_rfl) (by rfl) (exec_st27 rfl rfl ((cell_of_row _ _ 0 _ 27 (0, 0) rz3).trans rfl) (frozen_of_row _ _ 0 _ 27 rz3)) ⟨hM9, ?_⟩
            try simp only [Act.put, sI, sZ, sS]
            refine take_op (i := 9) (d := 10) (OP := Op.assign (Operand.tmp 47)) (T := 28) (v := ?v21) rfl rfl rfl rfl (by kernel_rfl) (by kernel_rfl) (by kernel_rfl) (fun _ _ _ h => h) (by rfl) ?h21 hM9 ?r21
            case h21 => (intro w' hSw; (try dsimp only at hSw); go_simp <;> with_reducible rfl)
            try simp only [Act.put, sI, sZ, sS]
            refine wpAnyH_done (by kernel_rfl) ?_ _
            have mg9 := (mg'.below bz3).aside rz3 o9
            have bl9 := Below.only bbz3 o9 bbz3.size (fun k e => by have e' : k = z2.heap.size := e; have := bbz2.size; omega)
            have HE9 := hide (And.intro u9 (And.intro hpt (And.intro mg9 (And.intro hl' bl9))))
            clear mg9 bl9 hpt hl' u9 o9
            go_wp2
            go_meet
            obtain ⟨u9, hpt, mg9, hl', bl9⟩ := HE9.out
            exact ⟨z2.heap.size, pt, t', rfl, rfl, hide ⟨⟨by simpa using u9, hpt, mg9⟩, hl', bl9⟩⟩
          · try simp only [Act.put, sI, sZ, sS]
            refine call_op (i := 3) (d := 45) (OP := Op.call { callee := Callee.value (Operand.func 90), args := #[Operand.tmp 42, Operand.tmp 44, Operand.const (Value.string { data := #[99] })], argTypes := #[27, 43, 9] }) (T := 29) (f := 90) (args := #[.agg #[.pointer pm], .agg #[.int .i64 3, .int .i64 0, .string ⟨#[97]⟩, .int .i64 1, .int .i64 0], .string ⟨#[99]⟩]) rfl rfl rfl rfl (by kernel_rfl) (by rfl) (by go_simp) ?_
            refine (hW  _ bby2).mono ?_
            rintro e z4 ⟨t', pt, hpt, rfl, mg', hl', bz4⟩
            have hz4 : z4.cell? ⟨Mb, 0, none⟩ = some (.pointer pm) := cell_stays hy2 bz4
            have bbz4 := bby2.trans (bz4.mono bby2.size)
            refine ⟨_, rfl, hz4, ?_⟩
            try simp only [Act.put, sI, sZ, sS]
            have rz4 := (bz4.block _ (gI ry2).1).trans ry2
            refine take_op (i := 4) (d := 41) (OP := Op.move (Operand.tmp 45)) (T := 29) (v := ?v22) rfl rfl rfl rfl (by kernel_rfl) (by kernel_rfl) (by kernel_rfl) (fun _ _ _ h => h) (by rfl) ?h22 hz4 ?r22
            case h22 => (intro w' hSw; (try dsimp only at hSw); go_simp <;> with_reducible rfl)
            try simp only [Act.put, sI, sZ, sS]
            refine take_op (i := 5) (d := 46) (OP := Op.extract (Operand.tmp 41) 0) (T := 27) (v := ?v23) rfl rfl rfl rfl (by kernel_rfl) (by kernel_rfl) (by kernel_rfl) (fun _ _ _ h => h) (by rfl) ?h23 hz4 ?r23
            case h23 => (intro w' hSw; (try dsimp only at hSw); go_simp <;> with_reducible rfl)
            try simp only [Act.put, sI, sZ, sS]
            refine take_op (i := 6) (d := 47) (OP := Op.extract (Operand.tmp 41) 1) (T := 28) (v := ?v24) rfl rfl rfl rfl (by kernel_rfl) (by kernel_rfl) (by kernel_rfl) (fun _ _ _ h => h) (by rfl) ?h24 hz4 ?r24
            case h24 => (intro w' hSw; (try dsimp only at hSw); go_simp <;> with_reducible rfl)
            try simp only [Act.put, sI, sZ, sS]
            obtain ⟨u9, o9⟩ := set_one (i := 0) (.pointer pt) rz4
            have hM9 : (z4.setCell ⟨z1.heap.size, 0, none⟩ (.pointer pt)).cell? ⟨Mb, 0, none⟩ = some (.pointer pm) := o9.cell hz4 (by simp only; have := HLT.out; have := bbz1.size; omega)
            refine skip_op (i := 8) (OP := Op.store 27 (Operand.tmp 9) (Operand.tmp 46)) (T := 0) (w' := z4.setCell ⟨z1.heap.size, 0, none⟩ (.pointer pt)) rfl rfl rfl rfl (by kernel_rfl) (by rfl) (exec_st27 rfl rfl ((cell_of_row _ _ 0 _ 27 (0, 0) rz4).trans rfl) (frozen_of_row _ _ 0 _ 27 rz4)) ⟨hM9, ?_⟩
            try simp only [Act.put, sI, sZ, sS]
            refine take_op (i := 9) (d := 10) (OP := Op.assign (Operand.tmp 47)) (T := 28) (v := ?v25) rfl rfl rfl rfl (by kernel_rfl) (by kernel_rfl) (by kernel_rfl) (fun _ _ _ h => h) (by rfl) ?h25 hM9 ?r25
            case h25 => (intro w' hSw; (try dsimp only at hSw); go_simp <;> with_reducible rfl)
            try simp only [Act.put, sI, sZ, sS]
            refine wpAnyH_done (by kernel_rfl) ?_ _
            have mg9 := mg'.aside rz4 o9
            have bl9 := Below.only bbz4 o9 bbz4.size (fun k e => by have e' : k = z1.heap.size := e; have := bbz1.size; omega)
            have HE9 := hide (And.intro u9 (And.intro hpt (And.intro mg9 (And.intro hl' bl9))))
            clear mg9 bl9 hpt hl' u9 o9
            go_wp2
            go_meet
            obtain ⟨u9, hpt, mg9, hl', bl9⟩ := HE9.out
            exact ⟨z1.heap.size, pt, t', rfl, rfl, hide ⟨⟨by simpa using u9, hpt, mg9⟩, hl', bl9⟩⟩
        · try simp only [Act.put, sI, sZ, sS]
          refine call_op (i := 1) (d := 43) (OP := Op.call { callee := Callee.value (Operand.func 102), args := #[Operand.const (Value.int IntKind.i64 3), Operand.const (Value.string { data := #[] })], argTypes := #[2, 9] }) (T := 53) (f := 102) (args := #[.int .i64 3, .string ⟨#[]⟩]) rfl rfl rfl rfl (by kernel_rfl) (by rfl) (by go_simp) ?_
          refine (jat46 3 ⟨#[]⟩ _).mono ?_
          rintro e z5 ⟨rfl, bz5⟩
          have hz5 : z5.cell? ⟨Mb, 0, none⟩ = some (.pointer pm) := cell_stays hy1 bz5
          have bbz5 := bby1.trans (bz5.mono bby1.size)
          refine ⟨_, rfl, hz5, ?_⟩
          try simp only [Act.put, sI, sZ, sS]
          refine take_op (i := 2) (d := 44) (OP := Op.field 53 (Operand.tmp 43) 0) (T := 43) (v := .agg #[.int .i64 3, .int .i64 0, .string ⟨#[97]⟩, .int .i64 1, .int .i64 0]) rfl rfl rfl rfl (by kernel_rfl) (by kernel_rfl) (by kernel_rfl) (fun _ _ _ h => h) (by rfl) ?h26 hz5 ?r26
          case h26 => (intro w' hSw; exact exec_fld53 rfl)
          try simp only [Act.put, sI, sZ, sS]
          refine call_op (i := 3) (d := 45) (OP := Op.call { callee := Callee.value (Operand.func 90), args := #[Operand.tmp 42, Operand.tmp 44, Operand.const (Value.string { data := #[99] })], argTypes := #[27, 43, 9] }) (T := 29) (f := 90) (args := #[.agg #[.pointer pm], .agg #[.int .i64 3, .int .i64 0, .string ⟨#[97]⟩, .int .i64 1, .int .i64 0], .string ⟨#[99]⟩]) rfl rfl rfl rfl (by kernel_rfl) (by rfl) (by go_simp) ?_
          refine (hW  _ bbz5).mono ?_
          rintro e z6 ⟨t', pt, hpt, rfl, mg', hl', bz6⟩
          have hz6 : z6.cell? ⟨Mb, 0, none⟩ = some (.pointer pm) := cell_stays hz5 bz6
          have bbz6 := bbz5.trans (bz6.mono bbz5.size)
          refine ⟨_, rfl, hz6, ?_⟩
          try simp only [Act.put, sI, sZ, sS]
          have rz6 := (bz6.block _ (gI ((bz5.block _ (gI ry1).1).trans ry1)).1).trans ((bz5.block _ (gI ry1).1).trans ry1)
          refine take_op (i := 4) (d := 41) (OP := Op.move (Operand.tmp 45)) (T := 29) (v := ?v27) rfl rfl rfl rfl (by kernel_rfl) (by kernel_rfl) (by kernel_rfl) (fun _ _ _ h => h) (by rfl) ?h27 hz6 ?r27
          case h27 => (intro w' hSw; (try dsimp only at hSw); go_simp <;> with_reducible rfl)
          try simp only [Act.put, sI, sZ, sS]
          refine take_op (i := 5) (d := 46) (OP := Op.extract (Operand.tmp 41) 0) (T := 27) (v := ?v28) rfl rfl rfl rfl (by kernel_rfl) (by kernel_rfl) (by kernel_rfl) (fun _ _ _ h => h) (by rfl) ?h28 hz6 ?r28
          case h28 => (intro w' hSw; (try dsimp only at hSw); go_simp <;> with_reducible rfl)
          try simp only [Act.put, sI, sZ, sS]
          refine take_op (i := 6) (d := 47) (OP := Op.extract (Operand.tmp 41) 1) (T := 28) (v := ?v29) rfl rfl rfl rfl (by kernel_rfl) (by kernel_rfl) (by kernel_rfl) (fun _ _ _ h => h) (by rfl) ?h29 hz6 ?r29
          case h29 => (intro w' hSw; (try dsimp only at hSw); go_simp <;> with_reducible rfl)
          try simp only [Act.put, sI, sZ, sS]
          obtain ⟨u9, o9⟩ := set_one (i := 0) (.pointer pt) rz6
          have hM9 : (z6.setCell ⟨Wd.heap.size, 0, none⟩ (.pointer pt)).cell? ⟨Mb, 0, none⟩ = some (.pointer pm) := o9.cell hz6 (by simp only; have := HLT.out; have := b0.size; omega)
          refine skip_op (i := 8) (OP := Op.store 27 (Operand.tmp 9) (Operand.tmp 46)) (T := 0) (w' := z6.setCell ⟨Wd.heap.size, 0, none⟩ (.pointer pt)) rfl rfl rfl rfl (by kernel_rfl) (by rfl) (exec_st27 rfl rfl ((cell_of_row _ _ 0 _ 27 (0, 0) rz6).trans rfl) (frozen_of_row _ _ 0 _ 27 rz6)) ⟨hM9, ?_⟩
          try simp only [Act.put, sI, sZ, sS]
          refine take_op (i := 9) (d := 10) (OP := Op.assign (Operand.tmp 47)) (T := 28) (v := ?v30) rfl rfl rfl rfl (by kernel_rfl) (by kernel_rfl) (by kernel_rfl) (fun _ _ _ h => h) (by rfl) ?h30 hM9 ?r30
          case h30 => (intro w' hSw; (try dsimp only at hSw); go_simp <;> with_reducible rfl)
          try simp only [Act.put, sI, sZ, sS]
          refine wpAnyH_done (by kernel_rfl) ?_ _
          have mg9 := mg'.aside rz6 o9
          have bl9 := Below.only bbz6 o9 bbz6.size (fun k e => by have e' : k = Wd.heap.size := e; have := b0.size; omega)
          have HE9 := hide (And.intro u9 (And.intro hpt (And.intro mg9 (And.intro hl' bl9))))
          clear mg9 bl9 hpt hl' u9 o9
          go_wp2
          go_meet
          obtain ⟨u9, hpt, mg9, hl', bl9⟩ := HE9.out
          exact ⟨Wd.heap.size, pt, t', rfl, rfl, hide ⟨⟨by simpa using u9, hpt, mg9⟩, hl', bl9⟩⟩
    case rest =>
      obtain ⟨Nb, pn, tn, rfl, rfl, HQ⟩ := hcut
      have b5c := HQ.out.2.2
      replace HB := hide (HB.out.trans (b5c.mono HB.out.size)); replace HBX := hide (HBX.out.below b5c); replace HX := hide ((b5c.block _ (gI HX.out).1).trans HX.out)
      have HNN := hide (And.intro HQ.out.1 HQ.out.2.1)
      clear b5c HLT HQ
      have cN := HNN.out.1.cell
      have htx := txABC HNN.out.1.2.2 HNN.out.1.2.1 HNN.out.2
      go_upto_region 7 with (go_at_call 101; refine htx.mono ?_; rintro e w9 ⟨ao, cp, rfl, hrs, b9⟩; replace HB := hide (HB.out.trans (b9.mono HB.out.size)); replace HBX := hide (HBX.out.below b9); replace HX := hide ((b9.block _ (gI HX.out).1).trans HX.out); replace HNN := hide (And.intro (HNN.out.1.below b9) HNN.out.2); have HRS := hide hrs; clear b9 hrs; dsimp only)
      clear htx cN
      have HLT : Hid (Mb < w9.heap.size) := hide (gI HBX.out.1).1
      go_cut [13, 14, 53, 54, 55, 56, 57, 58, 59] (fun v13 v14 v53 v54 v55 v56 v57 v58 v59 wq => ∃ (Nb : Nat) (pt : Option Addr) (t' : Pm.T), v13 = .pointer (some ⟨Nb, 0, none⟩) ∧ v14 = .int .i64 2 ∧ Hid (Boxd wq Nb pt t' ∧ t'.list = [] ∧ Below w9.heap.size w9 wq))
      case first =>
        as_aux_lemma =>
          have hW : ∀ W', Below w9.heap.size w9 W' → Calls Tryz.prog 90 #[.agg #[.pointer pm], .agg #[.int .i64 2, .int .i64 0, .string ⟨#[97]⟩, .int .i64 1, .int .i64 0], .string ⟨#[99]⟩] W' _ := fun W' hb => app2 (HBX.out.2.2.below hb) HPM.out HL.out
          clear hat hnm
          have qd : w9.drew.cell? ⟨Mb, 0, none⟩ = some (.pointer pm) := HBX.out.cell
          have b0 : Below w9.heap.size w9 w9.drew := drew_below w9
          refine wp_region_held_drew (S := fun w' => w'.cell? ⟨Mb, 0, none⟩ = some (.pointer pm)) (by kernel_rfl) qd (fun hHeld => ?_)
          clear qd
          obtain ⟨Wd, hWd⟩ : ∃ Wd, Wd = w9.drew := ⟨_, rfl⟩
          rw [← hWd] at hHeld b0 ⊢
          clear hWd
          refine take_op (i := 0) (d := 54) (OP := Op.load 27 (Operand.tmp 1)) (T := 27) (v := ?v31) rfl rfl rfl rfl (by kernel_rfl) (by kernel_rfl) (by kernel_rfl) (fun _ _ _ h => h) (by rfl) ?h31 hHeld ?r31
          case h31 => (intro w' hSw; (try dsimp only at hSw); go_simp <;> with_reducible rfl)
          try simp only [Act.put, sI, sZ, sS]
          obtain ⟨y1, ey1⟩ : ∃ q, q = Wd.alloc (.cells #[.pointer none] 27) := ⟨_, rfl⟩
          have ry1 : y1.heap[Wd.heap.size]? = some (.cells #[.pointer none] 27 (0, 0)) := by rw [ey1]; exact heap_alloc_new Wd _
          have by1 : Below Wd.heap.size Wd y1 := by rw [ey1]; exact (Below.refl _ Wd).alloc (Nat.le_refl _) _
          have hy1 : y1.cell? ⟨Mb, 0, none⟩ = some (.pointer pm) := cell_stays hHeld by1
          have bby1 := b0.trans (by1.mono b0.size)
          refine call_turn_op (i := 1) (di := 55) (OPi := Op.call { callee := Callee.value (Operand.func 102), args := #[Operand.const (Value.int IntKind.i64 2), Operand.const (Value.string { data := #[] })], argTypes := #[2, 9] }) (Ti := 53) (j := 7) (dj := 13) (OPj := Op.alloc 27) (Tj := 0) (f := 102) (args := #[.int .i64 2, .string ⟨#[]⟩]) (u := .pointer (some ⟨Wd.heap.size, 0, none⟩)) (w' := y1) rfl rfl rfl rfl rfl rfl rfl rfl (by kernel_rfl) (by rfl) (by rfl) (by go_simp) (by rw [ey1]; exact exec_al27 Wd) hy1 ?_ ?_
          · refine (jat46 2 ⟨#[]⟩ _).mono ?_
            rintro e z1 ⟨rfl, bz1⟩
            have hz1 : z1.cell? ⟨Mb, 0, none⟩ = some (.pointer pm) := cell_stays hHeld bz1
            have bbz1 := b0.trans (bz1.mono b0.size)
            refine ⟨_, rfl, hz1, ?_⟩
            try simp only [Act.put, sI, sZ, sS]
            refine take_op (i := 2) (d := 56) (OP := Op.field 53 (Operand.tmp 55) 0) (T := 43) (v := .agg #[.int .i64 2, .int .i64 0, .string ⟨#[97]⟩, .int .i64 1, .int .i64 0]) rfl rfl rfl rfl (by kernel_rfl) (by kernel_rfl) (by kernel_rfl) (fun _ _ _ h => h) (by rfl) ?h32 hz1 ?r32
            case h32 => (intro w' hSw; exact exec_fld53 rfl)
            try simp only [Act.put, sI, sZ, sS]
            obtain ⟨y2, ey2⟩ : ∃ q, q = z1.alloc (.cells #[.pointer none] 27) := ⟨_, rfl⟩
            have ry2 : y2.heap[z1.heap.size]? = some (.cells #[.pointer none] 27 (0, 0)) := by rw [ey2]; exact heap_alloc_new z1 _
            have by2 : Below z1.heap.size z1 y2 := by rw [ey2]; exact (Below.refl _ z1).alloc (Nat.le_refl _) _
            have hy2 : y2.cell? ⟨Mb, 0, none⟩ = some (.pointer pm) := cell_stays hz1 by2
            have bby2 := bbz1.trans (by2.mono bbz1.size)
            refine call_turn_op (i := 3) (di := 57) (OPi := Op.call { callee := Callee.value (Operand.func 90), args := #[Operand.tmp 54, Operand.tmp 56, Operand.const (Value.string { data := #[99] })], argTypes := #[27, 43, 9] }) (Ti := 29) (j := 7) (dj := 13) (OPj := Op.alloc 27) (Tj := 0) (f := 90) (args := #[.agg #[.pointer pm], .agg #[.int .i64 2, .int .i64 0, .string ⟨#[97]⟩, .int .i64 1, .int .i64 0], .string ⟨#[99]⟩]) (u := .pointer (some ⟨z1.heap.size, 0, none⟩)) (w' := y2) rfl rfl rfl rfl rfl rfl rfl rfl (by kernel_rfl) (by rfl) (by rfl) (by go_simp) (by rw [ey2]; exact exec_al27 z1) hy2 ?_ ?_
            · refine (hW  _ bbz1).mono ?_
              rintro e z2 ⟨t', pt, hpt, rfl, mg', hl', bz2⟩
              have hz2 : z2.cell? ⟨Mb, 0, none⟩ = some (.pointer pm) := cell_stays hz1 bz2
              have bbz2 := bbz1.trans (bz2.mono bbz1.size)
              refine ⟨_, rfl, hz2, ?_⟩
              try simp only [Act.put, sI, sZ, sS]
              refine take_op (i := 4) (d := 53) (OP := Op.move (Operand.tmp 57)) (T := 29) (v := ?v33) rfl rfl rfl rfl (by kernel_rfl) (by kernel_rfl) (by kernel_rfl) (fun _ _ _ h => h) (by rfl) ?h33 hz2 ?r33
              case h33 => (intro w' hSw; (try dsimp only at hSw); go_simp <;> with_reducible rfl)
              try simp only [Act.put, sI, sZ, sS]
              refine take_op (i := 5) (d := 58) (OP := Op.extract (Operand.tmp 53) 0) (T := 27) (v := ?v34) rfl rfl rfl rfl (by kernel_rfl) (by kernel_rfl) (by kernel_rfl) (fun _ _ _ h => h) (by rfl) ?h34 hz2 ?r34
              case h34 => (intro w' hSw; (try dsimp only at hSw); go_simp <;> with_reducible rfl)
              try simp only [Act.put, sI, sZ, sS]
              refine take_op (i := 6) (d := 59) (OP := Op.extract (Operand.tmp 53) 1) (T := 28) (v := ?v35) rfl rfl rfl rfl (by kernel_rfl) (by kernel_rfl) (by kernel_rfl) (fun _ _ _ h => h) (by rfl) ?h35 hz2 ?r35
              case h35 => (intro w' hSw; (try dsimp only at hSw); go_simp <;> with_reducible rfl)
              try simp only [Act.put, sI, sZ, sS]
              obtain ⟨z3, ez3⟩ : ∃ q, q = z2.alloc (.cells #[.pointer none] 27) := ⟨_, rfl⟩
              have rz3 : z3.heap[z2.heap.size]? = some (.cells #[.pointer none] 27 (0, 0)) := by rw [ez3]; exact heap_alloc_new z2 _
              have bz3 : Below z2.heap.size z2 z3 := by rw [ez3]; exact (Below.refl _ z2).alloc (Nat.le_refl _) _
              have hz3 : z3.cell? ⟨Mb, 0, none⟩ = some (.pointer pm) := cell_stays hz2 bz3
              have bbz3 := bbz2.trans (bz3.mono bbz2.size)
              refine turn_op (i := 7) (d := 13) (OP := Op.alloc 27) (T := 0) (v := .pointer (some ⟨z2.heap.size, 0, none⟩)) (w' := z3) rfl rfl rfl rfl (by kernel_rfl) (by rfl) (by rw [ez3]; exact exec_al27 z2) hz3 ?_
              try simp only [Act.put, sI, sZ, sS]
              obtain ⟨u9, o9⟩ := set_one (i := 0) (.pointer pt) rz3
              have hM9 : (z3.setCell ⟨z2.heap.size, 0, none⟩ (.pointer pt)).cell? ⟨Mb, 0, none⟩ = some (.pointer pm) := o9.cell hz3 (by simp only; have := HLT.out; have := bbz2.size; omega)
              refine skip_op (i := 8) (OP := Op.store 27 (Operand.tmp 13) (Operand.tmp 58)) (T := 0) (w' := z3.setCell ⟨z2.heap.size, 0, none⟩ (.pointer pt)) rfl rfl rfl rfl (by kernel_rfl) (by rfl) (exec_st27 rfl rfl ((cell_of_row _ _ 0 _ 27 (0, 0) rz3).trans rfl) (frozen_of_row _ _ 0 _ 27 rz3)) ⟨hM9, ?_⟩
              try simp only [Act.put, sI, sZ, sS]
              refine take_op (i := 9) (d := 14) (OP := Op.assign (Operand.tmp 59)) (T := 28) (v := ?v36) rfl rfl rfl rfl (by kernel_rfl) (by kernel_rfl) (by kernel_rfl) (fun _ _ _ h => h) (by rfl) ?h36 hM9 ?r36
              case h36 => (intro w' hSw; (try dsimp only at hSw); go_simp <;> with_reducible rfl)
              try simp only [Act.put, sI, sZ, sS]
              refine wpAnyH_done (by kernel_rfl) ?_ _
              have mg9 := (mg'.below bz3).aside rz3 o9
              have bl9 := Below.only bbz3 o9 bbz3.size (fun k e => by have e' : k = z2.heap.size := e; have := bbz2.size; omega)
              have HE9 := hide (And.intro u9 (And.intro hpt (And.intro mg9 (And.intro hl' bl9))))
              clear mg9 bl9 hpt hl' u9 o9
              go_wp2
              go_meet
              obtain ⟨u9, hpt, mg9, hl', bl9⟩ := HE9.out
              exact ⟨z2.heap.size, pt, t', rfl, rfl, hide ⟨⟨by simpa using u9, hpt, mg9⟩, hl', bl9⟩⟩
            · try simp only [Act.put, sI, sZ, sS]
              refine call_op (i := 3) (d := 57) (OP := Op.call { callee := Callee.value (Operand.func 90), args := #[Operand.tmp 54, Operand.tmp 56, Operand.const (Value.string { data := #[99] })], argTypes := #[27, 43, 9] }) (T := 29) (f := 90) (args := #[.agg #[.pointer pm], .agg #[.int .i64 2, .int .i64 0, .string ⟨#[97]⟩, .int .i64 1, .int .i64 0], .string ⟨#[99]⟩]) rfl rfl rfl rfl (by kernel_rfl) (by rfl) (by go_simp) ?_
              refine (hW  _ bby2).mono ?_
              rintro e z4 ⟨t', pt, hpt, rfl, mg', hl', bz4⟩
              have hz4 : z4.cell? ⟨Mb, 0, none⟩ = some (.pointer pm) := cell_stays hy2 bz4
              have bbz4 := bby2.trans (bz4.mono bby2.size)
              refine ⟨_, rfl, hz4, ?_⟩
              try simp only [Act.put, sI, sZ, sS]
              have rz4 := (bz4.block _ (gI ry2).1).trans ry2
              refine take_op (i := 4) (d := 53) (OP := Op.move (Operand.tmp 57)) (T := 29) (v := ?v37) rfl rfl rfl rfl (by kernel_rfl) (by kernel_rfl) (by kernel_rfl) (fun _ _ _ h => h) (by rfl) ?h37 hz4 ?r37
              case h37 => (intro w' hSw; (try dsimp only at hSw); go_simp <;> with_reducible rfl)
              try simp only [Act.put, sI, sZ, sS]
              refine take_op (i := 5) (d := 58) (OP := Op.extract (Operand.tmp 53) 0) (T := 27) (v := ?v38) rfl rfl rfl rfl (by kernel_rfl) (by kernel_rfl) (by kernel_rfl) (fun _ _ _ h => h) (by rfl) ?h38 hz4 ?r38
              case h38 => (intro w' hSw; (try dsimp only at hSw); go_simp <;> with_reducible rfl)
              try simp only [Act.put, sI, sZ, sS]
              refine take_op (i := 6) (d := 59) (OP := Op.extract (Operand.tmp 53) 1) (T := 28) (v := ?v39) rfl rfl rfl rfl (by kernel_rfl) (by kernel_rfl) (by kernel_rfl) (fun _ _ _ h => h) (by rfl) ?h39 hz4 ?r39
              case h39 => (intro w' hSw; (try dsimp only at hSw); go_simp <;> with_reducible rfl)
              try simp only [Act.put, sI, sZ, sS]
              obtain ⟨u9, o9⟩ := set_one (i := 0) (.pointer pt) rz4
              have hM9 : (z4.setCell ⟨z1.heap.size, 0, none⟩ (.pointer pt)).cell? ⟨Mb, 0, none⟩ = some (.pointer pm) := o9.cell hz4 (by simp only; have := HLT.out; have := bbz1.size; omega)
              refine skip_op (i := 8) (OP := Op.store 27 (Operand.tmp 13) (Operand.tmp 58)) (T := 0) (w' := z4.setCell ⟨z1.heap.size, 0, none⟩ (.pointer pt)) rfl rfl rfl rfl (by kernel_rfl) (by rfl) (exec_st27 rfl rfl ((cell_of_row _ _ 0 _ 27 (0, 0) rz4).trans rfl) (frozen_of_row _ _ 0 _ 27 rz4)) ⟨hM9, ?_⟩
              try simp only [Act.put, sI, sZ, sS]
              refine take_op (i := 9) (d := 14) (OP := Op.assign (Operand.tmp 59)) (T := 28) (v := ?v40) rfl rfl rfl rfl (by kernel_rfl) (by kernel_rfl) (by kernel_rfl) (fun _ _ _ h => h) (by rfl) ?h40 hM9 ?r40
              case h40 => (intro w' hSw; (try dsimp only at hSw); go_simp <;> with_reducible rfl)
              try simp only [Act.put, sI, sZ, sS]
              refine wpAnyH_done (by kernel_rfl) ?_ _
              have mg9 := mg'.aside rz4 o9
              have bl9 := Below.only bbz4 o9 bbz4.size (fun k e => by have e' : k = z1.heap.size := e; have := bbz1.size; omega)
              have HE9 := hide (And.intro u9 (And.intro hpt (And.intro mg9 (And.intro hl' bl9))))
              clear mg9 bl9 hpt hl' u9 o9
              go_wp2
              go_meet
              obtain ⟨u9, hpt, mg9, hl', bl9⟩ := HE9.out
              exact ⟨z1.heap.size, pt, t', rfl, rfl, hide ⟨⟨by simpa using u9, hpt, mg9⟩, hl', bl9⟩⟩
          · try simp only [Act.put, sI, sZ, sS]
            refine call_op (i := 1) (d := 55) (OP := Op.call { callee := Callee.value (Operand.func 102), args := #[Operand.const (Value.int IntKind.i64 2), Operand.const (Value.string { data := #[] })], argTypes := #[2, 9] }) (T := 53) (f := 102) (args := #[.int .i64 2, .string ⟨#[]⟩]) rfl rfl rfl rfl (by kernel_rfl) (by rfl) (by go_simp) ?_
            refine (jat46 2 ⟨#[]⟩ _).mono ?_
            rintro e z5 ⟨rfl, bz5⟩
            have hz5 : z5.cell? ⟨Mb, 0, none⟩ = some (.pointer pm) := cell_stays hy1 bz5
            have bbz5 := bby1.trans (bz5.mono bby1.size)
            refine ⟨_, rfl, hz5, ?_⟩
            try simp only [Act.put, sI, sZ, sS]
            refine take_op (i := 2) (d := 56) (OP := Op.field 53 (Operand.tmp 55) 0) (T := 43) (v := .agg #[.int .i64 2, .int .i64 0, .string ⟨#[97]⟩, .int .i64 1, .int .i64 0]) rfl rfl rfl rfl (by kernel_rfl) (by kernel_rfl) (by kernel_rfl) (fun _ _ _ h => h) (by rfl) ?h41 hz5 ?r41
            case h41 => (intro w' hSw; exact exec_fld53 rfl)
            try simp only [Act.put, sI, sZ, sS]
            refine call_op (i := 3) (d := 57) (OP := Op.call { callee := Callee.value (Operand.func 90), args := #[Operand.tmp 54, Operand.tmp 56, Operand.const (Value.string { data := #[99] })], argTypes := #[27, 43, 9] }) (T := 29) (f := 90) (args := #[.agg #[.pointer pm], .agg #[.int .i64 2, .int .i64 0, .string ⟨#[97]⟩, .int .i64 1, .int .i64 0], .string ⟨#[99]⟩]) rfl rfl rfl rfl (by kernel_rfl) (by rfl) (by go_simp) ?_
            refine (hW  _ bbz5).mono ?_
            rintro e z6 ⟨t', pt, hpt, rfl, mg', hl', bz6⟩
            have hz6 : z6.cell? ⟨Mb, 0, none⟩ = some (.pointer pm) := cell_stays hz5 bz6
            have bbz6 := bbz5.trans (bz6.mono bbz5.size)
            refine ⟨_, rfl, hz6, ?_⟩
            try simp only [Act.put, sI, sZ, sS]
            have rz6 := (bz6.block _ (gI ((bz5.block _ (gI ry1).1).trans ry1)).1).trans ((bz5.block _ (gI ry1).1).trans ry1)
            refine take_op (i := 4) (d := 53) (OP := Op.move (Operand.tmp 57)) (T := 29) (v := ?v42) rfl rfl rfl rfl (by kernel_rfl) (by kernel_rfl) (by kernel_rfl) (fun _ _ _ h => h) (by rfl) ?h42 hz6 ?r42
            case h42 => (intro w' hSw; (try dsimp only at hSw); go_simp <;> with_reducible rfl)
            try simp only [Act.put, sI, sZ, sS]
            refine take_op (i := 5) (d := 58) (OP := Op.extract (Operand.tmp 53) 0) (T := 27) (v := ?v43) rfl rfl rfl rfl (by kernel_rfl) (by kernel_rfl) (by kernel_rfl) (fun _ _ _ h => h) (by rfl) ?h43 hz6 ?r43
            case h43 => (intro w' hSw; (try dsimp only at hSw); go_simp <;> with_reducible rfl)
            try simp only [Act.put, sI, sZ, sS]
            refine take_op (i := 6) (d := 59) (OP := Op.extract (Operand.tmp 53) 1) (T := 28) (v := ?v44) rfl rfl rfl rfl (by kernel_rfl) (by kernel_rfl) (by kernel_rfl) (fun _ _ _ h => h) (by rfl) ?h44 hz6 ?r44
            case h44 => (intro w' hSw; (try dsimp only at hSw); go_simp <;> with_reducible rfl)
            try simp only [Act.put, sI, sZ, sS]
            obtain ⟨u9, o9⟩ := set_one (i := 0) (.pointer pt) rz6
            have hM9 : (z6.setCell ⟨Wd.heap.size, 0, none⟩ (.pointer pt)).cell? ⟨Mb, 0, none⟩ = some (.pointer pm) := o9.cell hz6 (by simp only; have := HLT.out; have := b0.size; omega)
            refine skip_op (i := 8) (OP := Op.store 27 (Operand.tmp 13) (Operand.tmp 58)) (T := 0) (w' := z6.setCell ⟨Wd.heap.size, 0, none⟩ (.pointer pt)) rfl rfl rfl rfl (by kernel_rfl) (by rfl) (exec_st27 rfl rfl ((cell_of_row _ _ 0 _ 27 (0, 0) rz6).trans rfl) (frozen_of_row _ _ 0 _ 27 rz6)) ⟨hM9, ?_⟩
            try simp only [Act.put, sI, sZ, sS]
            refine take_op (i := 9) (d := 14) (OP := Op.assign (Operand.tmp 59)) (T := 28) (v := ?v45) rfl rfl rfl rfl (by kernel_rfl) (by kernel_rfl) (by kernel_rfl) (fun _ _ _ h => h) (by rfl) ?h45 hM9 ?r45
            case h45 => (intro w' hSw; (try dsimp only at hSw); go_simp <;> with_reducible rfl)
            try simp only [Act.put, sI, sZ, sS]
            refine wpAnyH_done (by kernel_rfl) ?_ _
            have mg9 := mg'.aside rz6 o9
            have bl9 := Below.only bbz6 o9 bbz6.size (fun k e => by have e' : k = Wd.heap.size := e; have := b0.size; omega)
            have HE9 := hide (And.intro u9 (And.intro hpt (And.intro mg9 (And.intro hl' bl9))))
            clear mg9 bl9 hpt hl' u9 o9
            go_wp2
            go_meet
            obtain ⟨u9, hpt, mg9, hl', bl9⟩ := HE9.out
            exact ⟨Wd.heap.size, pt, t', rfl, rfl, hide ⟨⟨by simpa using u9, hpt, mg9⟩, hl', bl9⟩⟩
      case rest =>
        obtain ⟨_, _, _, rfl, rfl, HQ⟩ := hcut
        have b5c := HQ.out.2.2
        replace HB := hide (HB.out.trans (b5c.mono HB.out.size)); replace HBX := hide (HBX.out.below b5c); replace HX := hide ((b5c.block _ (gI HX.out).1).trans HX.out); replace HNN := hide (And.intro (HNN.out.1.below b5c) HNN.out.2); replace HRS := hide (HRS.out.below b5c)
        clear b5c HLT HQ
        obtain ⟨w10, hw10⟩ : ∃ q, wc = q := ⟨_, rfl⟩
        rw [hw10] at HB HBX HX HNN HRS ⊢
        clear hw10
        go_upto_region 9 with (first
          | (go_at_call 102; refine (hat _ _ _).mono ?_; rintro e w11 ⟨rfl, b11⟩; replace HB := hide (HB.out.trans (b11.mono HB.out.size)); replace HBX := hide (HBX.out.below b11); replace HX := hide ((b11.block _ (gI HX.out).1).trans HX.out); replace HNN := hide (And.intro (HNN.out.1.below b11) HNN.out.2); replace HRS := hide (HRS.out.below b11); clear b11; dsimp only)
          | (go_at_call 85; refine (ofZBj w11.heap.size _ (heap_alloc_new w11 _)).mono ?_; rintro e w12 ⟨tw, po, rfl, hpo, mgo, hlo, b12⟩; have b12' := (((Below.refl _ w11).alloc (Nat.le_refl _) _).trans (b12.mono (by simp))); replace HB := hide (HB.out.trans (b12'.mono HB.out.size)); replace HBX := hide (HBX.out.below b12'); replace HX := hide ((b12'.block _ (gI HX.out).1).trans HX.out); replace HNN := hide (And.intro (HNN.out.1.below b12') HNN.out.2); replace HRS := hide (HRS.out.below b12'); have H3 := hide (And.intro hpo (And.intro mgo hlo)); clear b12 b12' hpo mgo hlo; dsimp only))
        obtain ⟨Ob, hOb⟩ : ∃ q, q = w12.heap.size := ⟨_, rfl⟩
        obtain ⟨W2, hW2⟩ : ∃ q, q = w12.alloc (.cells #[.pointer po] 27) := ⟨_, rfl⟩
        have b22 : Below w12.heap.size w12 W2 := by rw [hW2]; exact (Below.refl _ w12).alloc (Nat.le_refl _) _
        have HO : Hid (Boxd W2 Ob po tw ∧ tw.list = zbL) := hide ⟨⟨by rw [hW2, hOb]; exact heap_alloc_new w12 _, H3.out.1, H3.out.2.1.below b22⟩, H3.out.2.2⟩
        replace HB := hide (HB.out.trans (b22.mono HB.out.size)); replace HBX := hide (HBX.out.below b22); replace HX := hide ((b22.block _ (gI HX.out).1).trans HX.out); replace HNN := hide (And.intro (HNN.out.1.below b22) HNN.out.2); replace HRS := hide (HRS.out.below b22)
        rw [← hW2, ← hOb]
        clear hOb hW2 b22 H3
        have cM := HBX.out.cell
        have cO := HO.out.1.cell
        have hpz : ∀ W, Below W2.heap.size W2 W → Calls Tryz.prog 93 #[.agg #[.pointer po], .agg #[.pointer pm]] W fun e w' => e = .returned (.bool false) ∧ Below W.heap.size W w' := fun W hW => partP (HO.out.1.2.2.below hW) HO.out.1.2.1 (HBX.out.2.2.below hW) HPM.out HO.out.2 HL.out j_pz
        refine wp_region_held_drew (S := fun w' => Below W2.heap.size W2 w') (by kernel_rfl) (by exact drew_below W2) (fun hHeld => ?_)
        try dsimp only at hHeld
        refine take_op (i := 0) (d := 67) (OP := Op.move (Operand.tmp 14)) (T := 28) (v := ?v46) rfl rfl rfl rfl (by kernel_rfl) (by kernel_rfl) (by kernel_rfl) (fun _ _ _ h => h) (by rfl) ?h46 hHeld ?r46
        case h46 => (intro w' hSw; (try dsimp only at hSw); go_simp <;> with_reducible rfl)
        try simp only [Act.put, sI, sZ, sS]
        refine call_op (i := 1) (d := 68) (OP := Op.call { callee := Callee.value (Operand.func 87), args := #[Operand.tmp 67], argTypes := #[28] }) (T := 3) (f := 87) (args := #[.int .i64 2]) rfl rfl rfl rfl (by kernel_rfl) (by rfl) (by go_simp) ?_
        refine (hnm _ _).mono ?_
        rintro e zn1 ⟨rfl, hz⟩
        rw [hz]
        clear hz
        refine ⟨_, rfl, hHeld, ?_⟩
        try simp only [Act.put, sI, sZ, sS]
        refine take_op (i := 2) (d := 69) (OP := Op.binOp BinOp.neq 3 (Operand.tmp 68) (Operand.const (Value.int IntKind.i64 2)) 3) (T := 4) (v := ?v47) rfl rfl rfl rfl (by kernel_rfl) (by kernel_rfl) (by kernel_rfl) (fun _ _ _ h => h) (by rfl) ?h47 hHeld ?r47
        case h47 => (intro w' hSw; (try dsimp only at hSw); go_simp <;> with_reducible rfl)
        try simp only [Act.put, sI, sZ, sS]
        refine take_op (i := 3) (d := 70) (OP := Op.move (Operand.tmp 69)) (T := 4) (v := ?v48) rfl rfl rfl rfl (by kernel_rfl) (by kernel_rfl) (by kernel_rfl) (fun _ _ _ h => h) (by rfl) ?h48 hHeld ?r48
        case h48 => (intro w' hSw; (try dsimp only at hSw); go_simp <;> with_reducible rfl)
        try simp only [Act.put, sI, sZ, sS]
        refine take_op (i := 4) (d := 71) (OP := Op.move (Operand.tmp 16)) (T := 28) (v := ?v49) rfl rfl rfl rfl (by kernel_rfl) (by kernel_rfl) (by kernel_rfl) (fun _ _ _ h => h) (by rfl) ?h49 hHeld ?r49
        case h49 => (intro w' hSw; (try dsimp only at hSw); go_simp <;> with_reducible rfl)
        try simp only [Act.put, sI, sZ, sS]
        refine call_op (i := 5) (d := 72) (OP := Op.call { callee := Callee.value (Operand.func 87), args := #[Operand.tmp 71], argTypes := #[28] }) (T := 3) (f := 87) (args := #[.int .i64 0]) rfl rfl rfl rfl (by kernel_rfl) (by rfl) (by go_simp) ?_
        refine (hnm _ _).mono ?_
        rintro e zn2 ⟨rfl, hz⟩
        rw [hz]
        clear hz
        refine ⟨_, rfl, hHeld, ?_⟩
        try simp only [Act.put, sI, sZ, sS]
        refine take_op (i := 6) (d := 73) (OP := Op.binOp BinOp.neq 3 (Operand.tmp 72) (Operand.const (Value.int IntKind.i64 0)) 3) (T := 4) (v := ?v50) rfl rfl rfl rfl (by kernel_rfl) (by kernel_rfl) (by kernel_rfl) (fun _ _ _ h => h) (by rfl) ?h50 hHeld ?r50
        case h50 => (intro w' hSw; (try dsimp only at hSw); go_simp <;> with_reducible rfl)
        try simp only [Act.put, sI, sZ, sS]
        refine take_op (i := 7) (d := 74) (OP := Op.pick (Operand.tmp 70) (Operand.const (Value.bool true)) (Operand.tmp 73)) (T := 4) (v := ?v51) rfl rfl rfl rfl (by kernel_rfl) (by kernel_rfl) (by kernel_rfl) (fun _ _ _ h => h) (by rfl) ?h51 hHeld ?r51
        case h51 => (intro w' hSw; (try dsimp only at hSw); go_simp <;> with_reducible rfl)
        try simp only [Act.put, sI, sZ, sS]
        refine take_op (i := 8) (d := 75) (OP := Op.move (Operand.tmp 74)) (T := 4) (v := ?v52) rfl rfl rfl rfl (by kernel_rfl) (by kernel_rfl) (by kernel_rfl) (fun _ _ _ h => h) (by rfl) ?h52 hHeld ?r52
        case h52 => (intro w' hSw; (try dsimp only at hSw); go_simp <;> with_reducible rfl)
        try simp only [Act.put, sI, sZ, sS]
        refine take_op (i := 9) (d := 76) (OP := Op.load 27 (Operand.tmp 15)) (T := 27) (v := .agg #[.pointer po]) rfl rfl rfl rfl (by kernel_rfl) (by kernel_rfl) (by kernel_rfl) (fun _ _ _ h => h) (by rfl) ?h53 hHeld ?r53
        case h53 => (intro w' hSw; (try dsimp only at hSw); have k0 := cell_stays cO hSw; go_simp <;> with_reducible rfl)
        try simp only [Act.put, sI, sZ, sS]
        refine take_op (i := 10) (d := 77) (OP := Op.load 27 (Operand.tmp 1)) (T := 27) (v := .agg #[.pointer pm]) rfl rfl rfl rfl (by kernel_rfl) (by kernel_rfl) (by kernel_rfl) (fun _ _ _ h => h) (by rfl) ?h54 hHeld ?r54
        case h54 => (intro w' hSw; (try dsimp only at hSw); have k0 := cell_stays cM hSw; go_simp <;> with_reducible rfl)
        try simp only [Act.put, sI, sZ, sS]
        refine call_op (i := 11) (d := 78) (OP := Op.call { callee := Callee.value (Operand.func 93), args := #[Operand.tmp 76, Operand.tmp 77], argTypes := #[27, 27] }) (T := 4) (f := 93) (args := #[.agg #[.pointer po], .agg #[.pointer pm]]) rfl rfl rfl rfl (by kernel_rfl) (by rfl) (by go_simp) ?_
        refine (hpz _ hHeld).mono ?_
        rintro e zp ⟨rfl, bzp⟩
        have qzp : Below W2.heap.size W2 zp := hHeld.trans (bzp.mono hHeld.size)
        refine ⟨_, rfl, qzp, ?_⟩
        replace hHeld := qzp
        clear qzp
        try simp only [Act.put, sI, sZ, sS]
        refine take_op (i := 12) (d := 79) (OP := Op.pick (Operand.tmp 75) (Operand.const (Value.bool true)) (Operand.tmp 78)) (T := 4) (v := ?v55) rfl rfl rfl rfl (by kernel_rfl) (by kernel_rfl) (by kernel_rfl) (fun _ _ _ h => h) (by rfl) ?h55 hHeld ?r55
        case h55 => (intro w' hSw; (try dsimp only at hSw); go_simp <;> with_reducible rfl)
        try simp only [Act.put, sI, sZ, sS]
        refine take_op (i := 13) (d := 80) (OP := Op.move (Operand.tmp 79)) (T := 4) (v := ?v56) rfl rfl rfl rfl (by kernel_rfl) (by kernel_rfl) (by kernel_rfl) (fun _ _ _ h => h) (by rfl) ?h56 hHeld ?r56
        case h56 => (intro w' hSw; (try dsimp only at hSw); go_simp <;> with_reducible rfl)
        try simp only [Act.put, sI, sZ, sS]
        refine take_op (i := 14) (d := 81) (OP := Op.load 27 (Operand.tmp 1)) (T := 27) (v := .agg #[.pointer pm]) rfl rfl rfl rfl (by kernel_rfl) (by kernel_rfl) (by kernel_rfl) (fun _ _ _ h => h) (by rfl) ?h57 hHeld ?r57
        case h57 => (intro w' hSw; (try dsimp only at hSw); have k0 := cell_stays cM hSw; go_simp <;> with_reducible rfl)
        try simp only [Act.put, sI, sZ, sS]
        refine call_op (i := 15) (d := 82) (OP := Op.call { callee := Callee.value (Operand.func 102), args := #[Operand.const (Value.int IntKind.i64 1), Operand.const (Value.string { data := #[] })], argTypes := #[2, 9] }) (T := 53) (f := 102) (args := #[.int .i64 1, .string ⟨#[]⟩]) rfl rfl rfl rfl (by kernel_rfl) (by rfl) (by go_simp) ?_
        refine (hat 1 ⟨#[]⟩ _).mono ?_
        rintro e za ⟨rfl, bza⟩
        have qza : Below W2.heap.size W2 za := hHeld.trans (bza.mono hHeld.size)
        refine ⟨_, rfl, qza, ?_⟩
        replace hHeld := qza
        clear qza
        try simp only [Act.put, sI, sZ, sS]
        refine take_op (i := 16) (d := 83) (OP := Op.field 53 (Operand.tmp 82) 0) (T := 43) (v := .agg #[.int .i64 1, .int .i64 0, .string ⟨#[97]⟩, .int .i64 1, .int .i64 0]) rfl rfl rfl rfl (by kernel_rfl) (by kernel_rfl) (by kernel_rfl) (fun _ _ _ h => h) (by rfl) ?h58 hHeld ?r58
        case h58 => (intro w' hSw; exact exec_fld53 rfl)
        try simp only [Act.put, sI, sZ, sS]
        refine call_op (i := 17) (d := 84) (OP := Op.call { callee := Callee.value (Operand.func 105), args := #[Operand.tmp 81, Operand.tmp 83], argTypes := #[27, 43] }) (T := 86) (f := 105) (args := #[.agg #[.pointer pm], .agg #[.int .i64 1, .int .i64 0, .string ⟨#[97]⟩, .int .i64 1, .int .i64 0]]) rfl rfl rfl rfl (by kernel_rfl) (by rfl) (by go_simp) ?_
        refine (sinceB HPM.out).mono ?_
        rintro e zs ⟨L, Sb, rfl, ⟨hL, hLt, hSb⟩, bzs⟩
        have qzs : Below W2.heap.size W2 zs := hHeld.trans (bzs.mono hHeld.size)
        refine ⟨_, rfl, qzs, ?_⟩
        replace hHeld := qzs
        clear qzs
        try simp only [Act.put, sI, sZ, sS]
        refine call_op (i := 18) (d := 85) (OP := Op.call { callee := Callee.value (Operand.func 102), args := #[Operand.const (Value.int IntKind.i64 2), Operand.const (Value.string { data := #[98] })], argTypes := #[2, 9] }) (T := 53) (f := 102) (args := #[.int .i64 2, .string ⟨#[98]⟩]) rfl rfl rfl rfl (by kernel_rfl) (by rfl) (by go_simp) ?_
        refine (hat 2 ⟨#[98]⟩ _).mono ?_
        rintro e zt ⟨rfl, bzt⟩
        have qzt : Below W2.heap.size W2 zt := hHeld.trans (bzt.mono hHeld.size)
        refine ⟨_, rfl, qzt, ?_⟩
        replace hHeld := qzt
        clear qzt
        try simp only [Act.put, sI, sZ, sS]
        obtain ⟨zy, ezy⟩ : ∃ q, q = zt.alloc (.cells (encE (atS 2, tB)).toArray 53) := ⟨_, rfl⟩
        have bzy : Below zt.heap.size zt zy := by rw [ezy]; exact (Below.refl _ zt).alloc (Nat.le_refl _) _
        have hSzy := hHeld.trans (bzy.mono hHeld.size)
        refine turn_op (i := 19) (d := 86) (OP := Op.buildSlice 22 1 #[(0, Operand.tmp 85)]) (T := 22) (v := .slice (some ⟨zt.heap.size, 0, none⟩) 1 1) (w' := zy) rfl rfl rfl rfl (by kernel_rfl) (by rfl) (by rw [ezy]; exact exec_bs53 rfl) hSzy ?_
        replace hHeld := hSzy
        try simp only [Act.put, sI, sZ, sS]
        refine call_op (i := 20) (d := 87) (OP := Op.call { callee := Callee.value (Operand.func 104), args := #[Operand.tmp 84, Operand.tmp 86, Operand.const (Value.int IntKind.i64 0)], argTypes := #[86, 22, 3] }) (T := 4) (f := 104) (args := #[.func (.func 162) #[] #[.pointer (some ⟨Sb, 0, none⟩), .pointer (some ⟨L, 0, none⟩)], .slice (some ⟨zt.heap.size, 0, none⟩) 1 1, .int .i64 0]) rfl rfl rfl rfl (by kernel_rfl) (by rfl) (by go_simp) ?_
        have bsy := bzt.trans (bzy.mono bzt.size)
        refine (goesB (HBX.out.2.2.below hHeld) HPM.out HL.out (cell_stays hL bsy) (Nat.lt_of_lt_of_le hLt bsy.size) ((bsy.block _ (gI hSb).1).trans hSb) (by rw [ezy]; exact one_re zt (atS 2, tB))).mono ?_
        rintro e zg ⟨rfl, bzg⟩
        have qzg : Below W2.heap.size W2 zg := hHeld.trans (bzg.mono hHeld.size)
        refine ⟨_, rfl, qzg, ?_⟩
        replace hHeld := qzg
        clear qzg
        try simp only [Act.put, sI, sZ, sS]
        refine take_op (i := 21) (d := 88) (OP := Op.unOp UnOp.not 4 (Operand.tmp 87)) (T := 4) (v := ?v59) rfl rfl rfl rfl (by kernel_rfl) (by kernel_rfl) (by kernel_rfl) (fun _ _ _ h => h) (by rfl) ?h59 hHeld ?r59
        case h59 => (intro w' hSw; (try dsimp only at hSw); go_simp <;> with_reducible rfl)
        try simp only [Act.put, sI, sZ, sS]
        refine take_op (i := 22) (d := 89) (OP := Op.pick (Operand.tmp 80) (Operand.const (Value.bool true)) (Operand.tmp 88)) (T := 4) (v := ?v60) rfl rfl rfl rfl (by kernel_rfl) (by kernel_rfl) (by kernel_rfl) (fun _ _ _ h => h) (by rfl) ?h60 hHeld ?r60
        case h60 => (intro w' hSw; (try dsimp only at hSw); go_simp <;> with_reducible rfl)
        try simp only [Act.put, sI, sZ, sS]
        refine wpAnyH_done (by kernel_rfl) ?_ _
        have HE := hide hHeld
        clear hHeld hpz cM cO bzt bzy ezy hL hLt hSb bzs bzp bza bzg bsy
        replace HB := hide (HB.out.trans (HE.out.mono HB.out.size)); replace HBX := hide (HBX.out.below HE.out); replace HX := hide ((HE.out.block _ (gI HX.out).1).trans HX.out); replace HNN := hide (And.intro (HNN.out.1.below HE.out) HNN.out.2); replace HRS := hide (HRS.out.below HE.out)
        clear HE HO
        obtain ⟨W3, hW3⟩ : ∃ q, zg = q := ⟨_, rfl⟩
        rw [hW3] at HB HBX HX HNN HRS ⊢
        clear hW3
        go_upto_region 11 with fail
        have cM := HBX.out.cell
        have cN := HNN.out.1.cell
        obtain ⟨xa0, xa1, xa2, xa3, xa4, xa5⟩ := cells_of_enc HX.out
        have hp1 : ∀ W, Below W3.heap.size W3 W → Calls Tryz.prog 93 #[.agg #[.pointer pm], .agg #[.pointer pn]] W fun e w' => e = .returned (.bool true) ∧ Below W.heap.size W w' := fun W hW => partP (HBX.out.2.2.below hW) HPM.out (HNN.out.1.2.2.below hW) HNN.out.1.2.1 HL.out HNN.out.2 j_p1
        have hp2 : ∀ W, Below W3.heap.size W3 W → Calls Tryz.prog 93 #[.agg #[.pointer pn], .agg #[.pointer pm]] W fun e w' => e = .returned (.bool false) ∧ Below W.heap.size W w' := fun W hW => partP (HNN.out.1.2.2.below hW) HNN.out.1.2.1 (HBX.out.2.2.below hW) HPM.out HNN.out.2 HL.out j_p2
        refine wp_region_held_drew (S := fun w' => Below W3.heap.size W3 w') (by kernel_rfl) (by exact drew_below W3) (fun hHeld => ?_)
        try dsimp only at hHeld
        refine take_op (i := 0) (d := 90) (OP := Op.move (Operand.tmp 2)) (T := 28) (v := ?v61) rfl rfl rfl rfl (by kernel_rfl) (by kernel_rfl) (by kernel_rfl) (fun _ _ _ h => h) (by rfl) ?h61 hHeld ?r61
        case h61 => (intro w' hSw; (try dsimp only at hSw); go_simp <;> with_reducible rfl)
        try simp only [Act.put, sI, sZ, sS]
        refine take_op (i := 2) (d := 92) (OP := Op.move (Operand.tmp 10)) (T := 28) (v := ?v62) rfl rfl rfl rfl (by kernel_rfl) (by kernel_rfl) (by kernel_rfl) (fun _ _ _ h => h) (by rfl) ?h62 hHeld ?r62
        case h62 => (intro w' hSw; (try dsimp only at hSw); go_simp <;> with_reducible rfl)
        try simp only [Act.put, sI, sZ, sS]
        refine take_op (i := 5) (d := 95) (OP := Op.move (Operand.tmp 12)) (T := 28) (v := ?v63) rfl rfl rfl rfl (by kernel_rfl) (by kernel_rfl) (by kernel_rfl) (fun _ _ _ h => h) (by rfl) ?h63 hHeld ?r63
        case h63 => (intro w' hSw; (try dsimp only at hSw); go_simp <;> with_reducible rfl)
        try simp only [Act.put, sI, sZ, sS]
        refine call_op (i := 1) (d := 91) (OP := Op.call { callee := Callee.value (Operand.func 87), args := #[Operand.tmp 90], argTypes := #[28] }) (T := 3) (f := 87) (args := #[.int .i64 0]) rfl rfl rfl rfl (by kernel_rfl) (by rfl) (by go_simp) ?_
        refine (hnm _ _).mono ?_
        rintro e zn3 ⟨rfl, hz⟩
        rw [hz]
        clear hz
        refine ⟨_, rfl, hHeld, ?_⟩
        try simp only [Act.put, sI, sZ, sS]
        refine call_op (i := 3) (d := 93) (OP := Op.call { callee := Callee.value (Operand.func 87), args := #[Operand.tmp 92], argTypes := #[28] }) (T := 3) (f := 87) (args := #[.int .i64 0]) rfl rfl rfl rfl (by kernel_rfl) (by rfl) (by go_simp) ?_
        refine (hnm _ _).mono ?_
        rintro e zn4 ⟨rfl, hz⟩
        rw [hz]
        clear hz
        refine ⟨_, rfl, hHeld, ?_⟩
        try simp only [Act.put, sI, sZ, sS]
        refine take_op (i := 4) (d := 94) (OP := Op.binOp BinOp.add 3 (Operand.tmp 91) (Operand.tmp 93) 3) (T := 3) (v := ?v64) rfl rfl rfl rfl (by kernel_rfl) (by kernel_rfl) (by kernel_rfl) (fun _ _ _ h => h) (by rfl) ?h64 hHeld ?r64
        case h64 => (intro w' hSw; (try dsimp only at hSw); go_simp <;> with_reducible rfl)
        try simp only [Act.put, sI, sZ, sS]
        refine call_op (i := 6) (d := 96) (OP := Op.call { callee := Callee.value (Operand.func 87), args := #[Operand.tmp 95], argTypes := #[28] }) (T := 3) (f := 87) (args := #[.int .i64 0]) rfl rfl rfl rfl (by kernel_rfl) (by rfl) (by go_simp) ?_
        refine (hnm _ _).mono ?_
        rintro e zn5 ⟨rfl, hz⟩
        rw [hz]
        clear hz
        refine ⟨_, rfl, hHeld, ?_⟩
        try simp only [Act.put, sI, sZ, sS]
        refine take_op (i := 7) (d := 97) (OP := Op.binOp BinOp.add 3 (Operand.tmp 94) (Operand.tmp 96) 3) (T := 3) (v := ?v65) rfl rfl rfl rfl (by kernel_rfl) (by kernel_rfl) (by kernel_rfl) (fun _ _ _ h => h) (by rfl) ?h65 hHeld ?r65
        case h65 => (intro w' hSw; (try dsimp only at hSw); go_simp <;> with_reducible rfl)
        try simp only [Act.put, sI, sZ, sS]
        refine take_op (i := 8) (d := 98) (OP := Op.binOp BinOp.eql 3 (Operand.tmp 97) (Operand.const (Value.int IntKind.i64 0)) 3) (T := 4) (v := ?v66) rfl rfl rfl rfl (by kernel_rfl) (by kernel_rfl) (by kernel_rfl) (fun _ _ _ h => h) (by rfl) ?h66 hHeld ?r66
        case h66 => (intro w' hSw; (try dsimp only at hSw); go_simp <;> with_reducible rfl)
        try simp only [Act.put, sI, sZ, sS]
        refine take_op (i := 9) (d := 99) (OP := Op.move (Operand.tmp 98)) (T := 4) (v := ?v67) rfl rfl rfl rfl (by kernel_rfl) (by kernel_rfl) (by kernel_rfl) (fun _ _ _ h => h) (by rfl) ?h67 hHeld ?r67
        case h67 => (intro w' hSw; (try dsimp only at hSw); go_simp <;> with_reducible rfl)
        try simp only [Act.put, sI, sZ, sS]
        refine take_op (i := 10) (d := 100) (OP := Op.load 53 (Operand.tmp 3)) (T := 53) (v := ev ((2, 0, ⟨#[97]⟩, 1, 0), ⟨#[98]⟩)) rfl rfl rfl rfl (by kernel_rfl) (by kernel_rfl) (by kernel_rfl) (fun _ _ _ h => h) (by rfl) ?h68 hHeld ?r68
        case h68 => (intro w' hSw; exact exec_ld53 rfl (cell_stays xa0 hSw) (cell_stays xa1 hSw) (cell_stays xa2 hSw) (cell_stays xa3 hSw) (cell_stays xa4 hSw) (cell_stays xa5 hSw))
        try simp only [Act.put, sI, sZ, sS]
        refine call_op (i := 11) (d := 101) (OP := Op.call { callee := Callee.value (Operand.func 102), args := #[Operand.const (Value.int IntKind.i64 2), Operand.const (Value.string { data := #[98] })], argTypes := #[2, 9] }) (T := 53) (f := 102) (args := #[.int .i64 2, .string ⟨#[98]⟩]) rfl rfl rfl rfl (by kernel_rfl) (by rfl) (by go_simp) ?_
        refine (hat 2 ⟨#[98]⟩ _).mono ?_
        rintro e zt ⟨rfl, bzt⟩
        have qzt : Below W3.heap.size W3 zt := hHeld.trans (bzt.mono hHeld.size)
        refine ⟨_, rfl, qzt, ?_⟩
        replace hHeld := qzt
        clear qzt
        try simp only [Act.put, sI, sZ, sS]
        refine take_op (i := 12) (d := 102) (OP := Op.binOp BinOp.eql 53 (Operand.tmp 100) (Operand.tmp 101) 53) (T := 4) (v := .bool true) rfl rfl rfl rfl (by kernel_rfl) (by kernel_rfl) (by kernel_rfl) (fun _ _ _ h => h) (by rfl) ?h69 hHeld ?r69
        case h69 => (intro w' hSw; exact (exec_eq53 (p := ((2, 0, ⟨#[97]⟩, 1, 0), ⟨#[98]⟩)) (q := ((2, 0, ⟨#[97]⟩, 1, 0), ⟨#[98]⟩)) rfl rfl).trans (by rw [decide_eq_true rfl]))
        try simp only [Act.put, sI, sZ, sS]
        refine take_op (i := 13) (d := 103) (OP := Op.pick (Operand.tmp 99) (Operand.tmp 102) (Operand.const (Value.bool false))) (T := 4) (v := ?v70) rfl rfl rfl rfl (by kernel_rfl) (by kernel_rfl) (by kernel_rfl) (fun _ _ _ h => h) (by rfl) ?h70 hHeld ?r70
        case h70 => (intro w' hSw; (try dsimp only at hSw); go_simp <;> with_reducible rfl)
        try simp only [Act.put, sI, sZ, sS]
        refine take_op (i := 14) (d := 104) (OP := Op.move (Operand.tmp 103)) (T := 4) (v := ?v71) rfl rfl rfl rfl (by kernel_rfl) (by kernel_rfl) (by kernel_rfl) (fun _ _ _ h => h) (by rfl) ?h71 hHeld ?r71
        case h71 => (intro w' hSw; (try dsimp only at hSw); go_simp <;> with_reducible rfl)
        try simp only [Act.put, sI, sZ, sS]
        refine take_op (i := 15) (d := 105) (OP := Op.move (Operand.tmp 4)) (T := 4) (v := ?v72) rfl rfl rfl rfl (by kernel_rfl) (by kernel_rfl) (by kernel_rfl) (fun _ _ _ h => h) (by rfl) ?h72 hHeld ?r72
        case h72 => (intro w' hSw; (try dsimp only at hSw); go_simp <;> with_reducible rfl)
        try simp only [Act.put, sI, sZ, sS]
        refine take_op (i := 16) (d := 106) (OP := Op.pick (Operand.tmp 104) (Operand.tmp 105) (Operand.const (Value.bool false))) (T := 4) (v := ?v73) rfl rfl rfl rfl (by kernel_rfl) (by kernel_rfl) (by kernel_rfl) (fun _ _ _ h => h) (by rfl) ?h73 hHeld ?r73
        case h73 => (intro w' hSw; (try dsimp only at hSw); go_simp <;> with_reducible rfl)
        try simp only [Act.put, sI, sZ, sS]
        refine take_op (i := 17) (d := 107) (OP := Op.move (Operand.tmp 106)) (T := 4) (v := ?v74) rfl rfl rfl rfl (by kernel_rfl) (by kernel_rfl) (by kernel_rfl) (fun _ _ _ h => h) (by rfl) ?h74 hHeld ?r74
        case h74 => (intro w' hSw; (try dsimp only at hSw); go_simp <;> with_reducible rfl)
        try simp only [Act.put, sI, sZ, sS]
        refine take_op (i := 18) (d := 108) (OP := Op.move (Operand.tmp 6)) (T := 4) (v := ?v75) rfl rfl rfl rfl (by kernel_rfl) (by kernel_rfl) (by kernel_rfl) (fun _ _ _ h => h) (by rfl) ?h75 hHeld ?r75
        case h75 => (intro w' hSw; (try dsimp only at hSw); go_simp <;> with_reducible rfl)
        try simp only [Act.put, sI, sZ, sS]
        refine take_op (i := 19) (d := 109) (OP := Op.unOp UnOp.not 4 (Operand.tmp 108)) (T := 4) (v := ?v76) rfl rfl rfl rfl (by kernel_rfl) (by kernel_rfl) (by kernel_rfl) (fun _ _ _ h => h) (by rfl) ?h76 hHeld ?r76
        case h76 => (intro w' hSw; (try dsimp only at hSw); go_simp <;> with_reducible rfl)
        try simp only [Act.put, sI, sZ, sS]
        refine take_op (i := 20) (d := 110) (OP := Op.pick (Operand.tmp 107) (Operand.tmp 109) (Operand.const (Value.bool false))) (T := 4) (v := ?v77) rfl rfl rfl rfl (by kernel_rfl) (by kernel_rfl) (by kernel_rfl) (fun _ _ _ h => h) (by rfl) ?h77 hHeld ?r77
        case h77 => (intro w' hSw; (try dsimp only at hSw); go_simp <;> with_reducible rfl)
        try simp only [Act.put, sI, sZ, sS]
        refine take_op (i := 21) (d := 111) (OP := Op.move (Operand.tmp 110)) (T := 4) (v := ?v78) rfl rfl rfl rfl (by kernel_rfl) (by kernel_rfl) (by kernel_rfl) (fun _ _ _ h => h) (by rfl) ?h78 hHeld ?r78
        case h78 => (intro w' hSw; (try dsimp only at hSw); go_simp <;> with_reducible rfl)
        try simp only [Act.put, sI, sZ, sS]
        refine take_op (i := 22) (d := 112) (OP := Op.move (Operand.tmp 8)) (T := 28) (v := ?v79) rfl rfl rfl rfl (by kernel_rfl) (by kernel_rfl) (by kernel_rfl) (fun _ _ _ h => h) (by rfl) ?h79 hHeld ?r79
        case h79 => (intro w' hSw; (try dsimp only at hSw); go_simp <;> with_reducible rfl)
        try simp only [Act.put, sI, sZ, sS]
        refine call_op (i := 23) (d := 113) (OP := Op.call { callee := Callee.value (Operand.func 87), args := #[Operand.tmp 112], argTypes := #[28] }) (T := 3) (f := 87) (args := #[.int .i64 2]) rfl rfl rfl rfl (by kernel_rfl) (by rfl) (by go_simp) ?_
        refine (hnm _ _).mono ?_
        rintro e zn6 ⟨rfl, hz⟩
        rw [hz]
        clear hz
        refine ⟨_, rfl, hHeld, ?_⟩
        try simp only [Act.put, sI, sZ, sS]
        refine take_op (i := 24) (d := 114) (OP := Op.binOp BinOp.eql 3 (Operand.tmp 113) (Operand.const (Value.int IntKind.i64 2)) 3) (T := 4) (v := ?v80) rfl rfl rfl rfl (by kernel_rfl) (by kernel_rfl) (by kernel_rfl) (fun _ _ _ h => h) (by rfl) ?h80 hHeld ?r80
        case h80 => (intro w' hSw; (try dsimp only at hSw); go_simp <;> with_reducible rfl)
        try simp only [Act.put, sI, sZ, sS]
        refine take_op (i := 25) (d := 115) (OP := Op.pick (Operand.tmp 111) (Operand.tmp 114) (Operand.const (Value.bool false))) (T := 4) (v := ?v81) rfl rfl rfl rfl (by kernel_rfl) (by kernel_rfl) (by kernel_rfl) (fun _ _ _ h => h) (by rfl) ?h81 hHeld ?r81
        case h81 => (intro w' hSw; (try dsimp only at hSw); go_simp <;> with_reducible rfl)
        try simp only [Act.put, sI, sZ, sS]
        refine take_op (i := 26) (d := 116) (OP := Op.move (Operand.tmp 115)) (T := 4) (v := ?v82) rfl rfl rfl rfl (by kernel_rfl) (by kernel_rfl) (by kernel_rfl) (fun _ _ _ h => h) (by rfl) ?h82 hHeld ?r82
        case h82 => (intro w' hSw; (try dsimp only at hSw); go_simp <;> with_reducible rfl)
        try simp only [Act.put, sI, sZ, sS]
        refine take_op (i := 27) (d := 117) (OP := Op.move (Operand.tmp 11)) (T := 63) (v := ?v83) rfl rfl rfl rfl (by kernel_rfl) (by kernel_rfl) (by kernel_rfl) (fun _ _ _ h => h) (by rfl) ?h83 hHeld ?r83
        case h83 => (intro w' hSw; (try dsimp only at hSw); go_simp <;> with_reducible rfl)
        try simp only [Act.put, sI, sZ, sS]
        obtain ⟨zy, ezy⟩ : ∃ q, q = zt.alloc (.cells #[.string tA, .string tB, .string tC] 9) := ⟨_, rfl⟩
        have bzy : Below zt.heap.size zt zy := by rw [ezy]; exact (Below.refl _ zt).alloc (Nat.le_refl _) _
        have hSzy := hHeld.trans (bzy.mono hHeld.size)
        refine turn_op (i := 28) (d := 118) (OP := Op.buildSlice 63 3 #[(0, Operand.const (Value.string { data := #[97] })), (1, Operand.const (Value.string { data := #[98] })), (2, Operand.const (Value.string { data := #[99] }))]) (T := 63) (v := .slice (some ⟨zt.heap.size, 0, none⟩) 3 3) (w' := zy) rfl rfl rfl rfl (by kernel_rfl) (by rfl) (by rw [ezy]; exact exec_bs3 _) hSzy ?_
        replace hHeld := hSzy
        try simp only [Act.put, sI, sZ, sS]
        refine call_op (i := 29) (d := 119) (OP := Op.call { callee := Callee.value (Operand.func 108), args := #[Operand.tmp 117, Operand.tmp 118], argTypes := #[63, 63] }) (T := 4) (f := 108) (args := #[.slice ao 3 cp, .slice (some ⟨zt.heap.size, 0, none⟩) 3 3]) rfl rfl rfl rfl (by kernel_rfl) (by rfl) (by go_simp) ?_
        refine (sameABC (HRS.out.below hHeld) (by rw [ezy]; exact heap_alloc_new zt _)).mono ?_
        rintro e zq ⟨rfl, bzq⟩
        have qzq : Below W3.heap.size W3 zq := hHeld.trans (bzq.mono hHeld.size)
        refine ⟨_, rfl, qzq, ?_⟩
        replace hHeld := qzq
        clear qzq
        try simp only [Act.put, sI, sZ, sS]
        refine take_op (i := 30) (d := 120) (OP := Op.pick (Operand.tmp 116) (Operand.tmp 119) (Operand.const (Value.bool false))) (T := 4) (v := ?v84) rfl rfl rfl rfl (by kernel_rfl) (by kernel_rfl) (by kernel_rfl) (fun _ _ _ h => h) (by rfl) ?h84 hHeld ?r84
        case h84 => (intro w' hSw; (try dsimp only at hSw); go_simp <;> with_reducible rfl)
        try simp only [Act.put, sI, sZ, sS]
        refine take_op (i := 31) (d := 121) (OP := Op.move (Operand.tmp 120)) (T := 4) (v := ?v85) rfl rfl rfl rfl (by kernel_rfl) (by kernel_rfl) (by kernel_rfl) (fun _ _ _ h => h) (by rfl) ?h85 hHeld ?r85
        case h85 => (intro w' hSw; (try dsimp only at hSw); go_simp <;> with_reducible rfl)
        try simp only [Act.put, sI, sZ, sS]
        refine take_op (i := 32) (d := 122) (OP := Op.load 27 (Operand.tmp 1)) (T := 27) (v := .agg #[.pointer pm]) rfl rfl rfl rfl (by kernel_rfl) (by kernel_rfl) (by kernel_rfl) (fun _ _ _ h => h) (by rfl) ?h86 hHeld ?r86
        case h86 => (intro w' hSw; (try dsimp only at hSw); have k0 := cell_stays cM hSw; go_simp <;> with_reducible rfl)
        try simp only [Act.put, sI, sZ, sS]
        refine take_op (i := 33) (d := 123) (OP := Op.load 27 (Operand.tmp 9)) (T := 27) (v := .agg #[.pointer pn]) rfl rfl rfl rfl (by kernel_rfl) (by kernel_rfl) (by kernel_rfl) (fun _ _ _ h => h) (by rfl) ?h87 hHeld ?r87
        case h87 => (intro w' hSw; (try dsimp only at hSw); have k0 := cell_stays cN hSw; go_simp <;> with_reducible rfl)
        try simp only [Act.put, sI, sZ, sS]
        refine call_op (i := 34) (d := 124) (OP := Op.call { callee := Callee.value (Operand.func 93), args := #[Operand.tmp 122, Operand.tmp 123], argTypes := #[27, 27] }) (T := 4) (f := 93) (args := #[.agg #[.pointer pm], .agg #[.pointer pn]]) rfl rfl rfl rfl (by kernel_rfl) (by rfl) (by go_simp) ?_
        refine (hp1 _ hHeld).mono ?_
        rintro e zr ⟨rfl, bzr⟩
        have qzr : Below W3.heap.size W3 zr := hHeld.trans (bzr.mono hHeld.size)
        refine ⟨_, rfl, qzr, ?_⟩
        replace hHeld := qzr
        clear qzr
        try simp only [Act.put, sI, sZ, sS]
        refine take_op (i := 35) (d := 125) (OP := Op.pick (Operand.tmp 121) (Operand.tmp 124) (Operand.const (Value.bool false))) (T := 4) (v := ?v88) rfl rfl rfl rfl (by kernel_rfl) (by kernel_rfl) (by kernel_rfl) (fun _ _ _ h => h) (by rfl) ?h88 hHeld ?r88
        case h88 => (intro w' hSw; (try dsimp only at hSw); go_simp <;> with_reducible rfl)
        try simp only [Act.put, sI, sZ, sS]
        refine take_op (i := 36) (d := 126) (OP := Op.move (Operand.tmp 125)) (T := 4) (v := ?v89) rfl rfl rfl rfl (by kernel_rfl) (by kernel_rfl) (by kernel_rfl) (fun _ _ _ h => h) (by rfl) ?h89 hHeld ?r89
        case h89 => (intro w' hSw; (try dsimp only at hSw); go_simp <;> with_reducible rfl)
        try simp only [Act.put, sI, sZ, sS]
        refine take_op (i := 37) (d := 127) (OP := Op.load 27 (Operand.tmp 9)) (T := 27) (v := .agg #[.pointer pn]) rfl rfl rfl rfl (by kernel_rfl) (by kernel_rfl) (by kernel_rfl) (fun _ _ _ h => h) (by rfl) ?h90 hHeld ?r90
        case h90 => (intro w' hSw; (try dsimp only at hSw); have k0 := cell_stays cN hSw; go_simp <;> with_reducible rfl)
        try simp only [Act.put, sI, sZ, sS]
        refine take_op (i := 38) (d := 128) (OP := Op.load 27 (Operand.tmp 1)) (T := 27) (v := .agg #[.pointer pm]) rfl rfl rfl rfl (by kernel_rfl) (by kernel_rfl) (by kernel_rfl) (fun _ _ _ h => h) (by rfl) ?h91 hHeld ?r91
        case h91 => (intro w' hSw; (try dsimp only at hSw); have k0 := cell_stays cM hSw; go_simp <;> with_reducible rfl)
        try simp only [Act.put, sI, sZ, sS]
        refine call_op (i := 39) (d := 129) (OP := Op.call { callee := Callee.value (Operand.func 93), args := #[Operand.tmp 127, Operand.tmp 128], argTypes := #[27, 27] }) (T := 4) (f := 93) (args := #[.agg #[.pointer pn], .agg #[.pointer pm]]) rfl rfl rfl rfl (by kernel_rfl) (by rfl) (by go_simp) ?_
        refine (hp2 _ hHeld).mono ?_
        rintro e zu ⟨rfl, bzu⟩
        have qzu : Below W3.heap.size W3 zu := hHeld.trans (bzu.mono hHeld.size)
        refine ⟨_, rfl, qzu, ?_⟩
        replace hHeld := qzu
        clear qzu
        try simp only [Act.put, sI, sZ, sS]
        refine take_op (i := 40) (d := 130) (OP := Op.unOp UnOp.not 4 (Operand.tmp 129)) (T := 4) (v := ?v92) rfl rfl rfl rfl (by kernel_rfl) (by kernel_rfl) (by kernel_rfl) (fun _ _ _ h => h) (by rfl) ?h92 hHeld ?r92
        case h92 => (intro w' hSw; (try dsimp only at hSw); go_simp <;> with_reducible rfl)
        try simp only [Act.put, sI, sZ, sS]
        refine take_op (i := 41) (d := 131) (OP := Op.pick (Operand.tmp 126) (Operand.tmp 130) (Operand.const (Value.bool false))) (T := 4) (v := ?v93) rfl rfl rfl rfl (by kernel_rfl) (by kernel_rfl) (by kernel_rfl) (fun _ _ _ h => h) (by rfl) ?h93 hHeld ?r93
        case h93 => (intro w' hSw; (try dsimp only at hSw); go_simp <;> with_reducible rfl)
        try simp only [Act.put, sI, sZ, sS]
        refine take_op (i := 42) (d := 0) (OP := Op.assign (Operand.tmp 131)) (T := 4) (v := ?v94) rfl rfl rfl rfl (by kernel_rfl) (by kernel_rfl) (by kernel_rfl) (fun _ _ _ h => h) (by rfl) ?h94 hHeld ?r94
        case h94 => (intro w' hSw; (try dsimp only at hSw); go_simp <;> with_reducible rfl)
        try simp only [Act.put, sI, sZ, sS]
        refine wpAnyH_done (by kernel_rfl) ?_ _
        have HFIN := hide (HB.out.trans (hHeld.mono HB.out.size))
        clear hHeld
        go_wp2
        go_ret
        exact ⟨rfl, HFIN.out⟩
end Go.Proofs.YtkkpdgfllnbigaaGreat.Jo
