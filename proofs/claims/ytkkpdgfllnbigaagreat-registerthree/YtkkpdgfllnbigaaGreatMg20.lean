/-
  The document's SameElements 65, Same 24, SameTexts 31; the laws' at 38.
  register: the law's small functions: at (46), num (35), the document's Text (55).
  register: the chapter's rows (known 32).
  register: going over a map that may not be tells nothing (goes 48).
  Going over a map tells its elements (goes 52).
  REFKEY: the document's own key of a stamp.
  REFOK: the document's reading of a key.
-/
import Derived.Test.YtkkpdgfllnbigaaGreatMg17
import Derived.Test.YtkkpdgfllnbigaaGreatMg13
import Derived.Test.YtkkpdgfllnbigaaGreatReg7
import Derived.Deep.DeepCutAuto
import Derived.Deep.CutBlock
import Derived.Test.YtkkpdgfllnbigaaGreatMg10
import Derived.Test.YtkkpdgfllnbigaaGreatMg11
namespace Go.Proofs.YtkkpdgfllnbigaaGreat
open Go.RowKit Go.Shelf
set_option linter.unusedSimpArgs false
attribute [local go_sem] Oper.semAt_some

set_option maxHeartbeats 4000000 in
set_option maxRecDepth 100000 in
theorem sameEls_any {w : World} {ao bo : Option Addr} {c d : Nat} {l m : List El} (h : Re w ao l) (k : Re w bo m) (hl : l.length ≤ 1000000) (hm : m.length ≤ 1000000) : Calls Tryz.prog 39 #[.slice ao l.length c, .slice bo m.length d] w fun e w' => e = .returned (.bool (decide (l = m))) ∧ ∃ n, w' = w.drewN n := by
  obtain ⟨N, hN⟩ : ∃ N, N = l.length := ⟨_, rfl⟩
  obtain ⟨M, hM⟩ : ∃ N, N = m.length := ⟨_, rfl⟩
  obtain ⟨R, hR⟩ : ∃ R, R = decide (l = m) := ⟨_, rfl⟩
  rw [← hR]
  rw [← hN] at hl ⊢
  rw [← hM] at hm ⊢
  have H := hide (And.intro hN (And.intro hM (And.intro h k)))
  have HR := hide hR
  clear hN hM hR h k
  by_cases hNM : N = M
  · subst hNM
    go_enter Tryz.func39, Tryz.ntmps39
    go_wp2
    go_loopw [5] (fun iv wr => ∃ i : Nat, i ≤ N ∧ iv = .int .i64 i ∧ Hid (l.take i = m.take i) ∧ ∃ n, wr = w.drewN n) (fun iv _ => N - (intOf iv).toNat)
    case atStart => exact ⟨0, by omega, rfl, hide (by simp), 0, rfl⟩
    case round =>
      obtain ⟨i, hi, rfl, hrest, n, hwr⟩ := hrel
      have hlr : Re wr ao l := by rw [hwr]; exact ⟨H.out.2.2.1.1, H.out.2.2.1.2⟩
      have hmr : Re wr bo m := by rw [hwr]; exact ⟨H.out.2.2.2.1, H.out.2.2.2.2⟩
      have HWR := hide hwr
      clear hwr
      by_cases h1 : i < N
      · have z1 : (i : Int) < (N : Int) := by omega
        have d1 : decide (i < N) = true := by simpa using h1
        obtain ⟨x, hx⟩ : ∃ x, l[i]? = some x := ⟨_, List.getElem?_eq_getElem (by rw [← H.out.1]; exact h1)⟩
        obtain ⟨y, hy⟩ : ∃ y, m[i]? = some y := ⟨_, List.getElem?_eq_getElem (by rw [← H.out.2.1]; exact h1)⟩
        obtain ⟨ab, off, rfl, q0, q1, q2, q3, q4, q5⟩ := hlr.cells hx
        obtain ⟨bb, ob, rfl, p0, p1, p2, p3, p4, p5⟩ := hmr.cells hy
        have hne := fun W => run_ne77 x y W
        have HX := hide (And.intro hx hy)
        clear hx hy hlr hmr
        by_cases hxy : x = y
        · have HXY := hide hxy
          have d2 : decide (x = y) = true := by simpa using hxy
          rw [d2] at hne
          clear hxy d2
          obtain ⟨⟨g, r, l0, n0, i0⟩, t0⟩ := x
          obtain ⟨⟨g', r', l0', n0', i0'⟩, t0'⟩ := y
          dsimp only at q0 q1 q2 q3 q4 q5 p0 p1 p2 p3 p4 p5
          go_wp2
          go_quiet (fail)
          go_wp2
          go_roundw
          case rel => exact ⟨i + 1, by omega, by go_num, hide (by rw [List.take_add_one, List.take_add_one, HX.out.1, HX.out.2, hrest.out, HXY.out]), _, by rw [HWR.out, World.drewN_drewN]⟩
          case measure => simp [intOf]; omega
        · have hd : R = false := by
            rw [HR.out]
            simp only [decide_eq_false_iff_not]
            intro e
            have := HX.out.1.symm.trans ((congrArg (·[i]?) e).trans HX.out.2)
            exact hxy (by simpa using this)
          have d2 : decide (x = y) = false := by simpa using hxy
          rw [d2] at hne
          have HD := hide hd
          clear hd hxy d2
          obtain ⟨⟨g, r, l0, n0, i0⟩, t0⟩ := x
          obtain ⟨⟨g', r', l0', n0', i0'⟩, t0'⟩ := y
          dsimp only at q0 q1 q2 q3 q4 q5 p0 p1 p2 p3 p4 p5
          go_wp2
          go_quiet (fail)
          go_wp2
          go_ret
          exact ⟨by rw [HD.out]; rfl, _, by rw [HWR.out, World.drewN_drewN]⟩
      · obtain rfl : i = N := by omega
        have d1 : decide (i < i) = false := by simp
        go_wp2
        go_ret
        have : l = m := by
          have := hrest.out
          rwa [show l.take i = l by rw [H.out.1]; exact List.take_length, show m.take i = m by rw [H.out.2.1]; exact List.take_length] at this
        exact ⟨by rw [HR.out, decide_eq_true this]; rfl, n, HWR.out⟩
  · have e1 : ((N : Int) == (M : Int)) = false := by rw [beq_eq_false_iff_ne]; omega
    have hd : R = false := by
      rw [HR.out]
      simp only [decide_eq_false_iff_not]
      intro e
      exact hNM (by rw [H.out.1, H.out.2.1, e])
    subst hd
    go_enter Tryz.func39, Tryz.ntmps39
    go_wp2
    go_ret
    exact ⟨rfl, 0, rfl⟩

set_option maxHeartbeats 4000000 in
set_option maxRecDepth 100000 in
theorem sameTexts_any {w : World} {ao bo : Option Addr} {c d : Nat} {l m : List ByteArray} (h : Rs w ao l) (k : Rs w bo m) (hl : l.length ≤ 1000000) (hm : m.length ≤ 1000000) : Calls Tryz.prog 108 #[.slice ao l.length c, .slice bo m.length d] w fun e w' => e = .returned (.bool (decide (l = m))) ∧ ∃ n, w' = w.drewN n := by
  obtain ⟨N, hN⟩ : ∃ N, N = l.length := ⟨_, rfl⟩
  obtain ⟨M, hM⟩ : ∃ N, N = m.length := ⟨_, rfl⟩
  obtain ⟨R, hR⟩ : ∃ R, R = decide (l = m) := ⟨_, rfl⟩
  rw [← hR]
  rw [← hN] at hl ⊢
  rw [← hM] at hm ⊢
  have H := hide (And.intro hN (And.intro hM (And.intro h k)))
  have HR := hide hR
  clear hN hM hR h k
  by_cases hNM : N = M
  · subst hNM
    go_enter Tryz.func108, Tryz.ntmps108
    go_wp2
    go_loopw [5] (fun iv wr => ∃ i : Nat, i ≤ N ∧ iv = .int .i64 i ∧ Hid (l.take i = m.take i) ∧ ∃ n, wr = w.drewN n) (fun iv _ => N - (intOf iv).toNat)
    case atStart => exact ⟨0, by omega, rfl, hide (by simp), 0, rfl⟩
    case round =>
      obtain ⟨i, hi, rfl, hrest, n, hwr⟩ := hrel
      have hlr : Rs wr ao l := by rw [hwr]; exact ⟨H.out.2.2.1.1, H.out.2.2.1.2⟩
      have hmr : Rs wr bo m := by rw [hwr]; exact ⟨H.out.2.2.2.1, H.out.2.2.2.2⟩
      have HWR := hide hwr
      clear hwr
      by_cases h1 : i < N
      · have z1 : (i : Int) < (N : Int) := by omega
        have d1 : decide (i < N) = true := by simpa using h1
        obtain ⟨x, hx⟩ : ∃ x, l[i]? = some x := ⟨_, List.getElem?_eq_getElem (by rw [← H.out.1]; exact h1)⟩
        obtain ⟨y, hy⟩ : ∃ y, m[i]? = some y := ⟨_, List.getElem?_eq_getElem (by rw [← H.out.2.1]; exact h1)⟩
        obtain ⟨ab, off, rfl, q0⟩ := hlr.at hx
        obtain ⟨bb, ob, rfl, p0⟩ := hmr.at hy
        have HX := hide (And.intro hx hy)
        clear hx hy hlr hmr
        by_cases hxy : x = y
        · have HXY := hide hxy
          have d2 : (x.toList == y.toList) = true := bytes_same.2 hxy
          clear hxy
          go_wp2
          go_quiet (fail)
          go_wp2
          go_roundw
          case rel => exact ⟨i + 1, by omega, by go_num, hide (by rw [List.take_add_one, List.take_add_one, HX.out.1, HX.out.2, hrest.out, HXY.out]), _, by rw [HWR.out, World.drewN_drewN]⟩
          case measure => simp [intOf]; omega
        · have hd : R = false := by
            rw [HR.out]
            simp only [decide_eq_false_iff_not]
            intro e
            have := HX.out.1.symm.trans ((congrArg (·[i]?) e).trans HX.out.2)
            exact hxy (by simpa using this)
          have d2 : (x.toList == y.toList) = false := by rw [Bool.eq_false_iff, Ne, bytes_same]; exact hxy
          have HD := hide hd
          clear hd hxy
          go_wp2
          go_quiet (fail)
          go_wp2
          go_ret
          exact ⟨by rw [HD.out]; rfl, _, by rw [HWR.out, World.drewN_drewN]⟩
      · obtain rfl : i = N := by omega
        have d1 : decide (i < i) = false := by simp
        go_wp2
        go_ret
        have : l = m := by
          have := hrest.out
          rwa [show l.take i = l by rw [H.out.1]; exact List.take_length, show m.take i = m by rw [H.out.2.1]; exact List.take_length] at this
        exact ⟨by rw [HR.out, decide_eq_true this]; rfl, n, HWR.out⟩
  · have e1 : ((N : Int) == (M : Int)) = false := by rw [beq_eq_false_iff_ne]; omega
    have hd : R = false := by
      rw [HR.out]
      simp only [decide_eq_false_iff_not]
      intro e
      exact hNM (by rw [H.out.1, H.out.2.1, e])
    subst hd
    go_enter Tryz.func108, Tryz.ntmps108
    go_wp2
    go_ret
    exact ⟨rfl, 0, rfl⟩


/-- The laws' stamps. -/
def atS (g : Int) : St := (g, 0, ⟨#[97]⟩, 1, 0)
end Go.Proofs.YtkkpdgfllnbigaaGreat
namespace Go.Proofs.YtkkpdgfllnbigaaGreat
open Go.RowKit Go.Shelf
set_option linter.unusedSimpArgs false
attribute [local go_sem] Oper.semAt_some

theorem num35 (n : Int) (w : World) : Calls Tryz.prog 43 #[.int .i64 n] w fun e w' => e = .returned (.int .i64 n) ∧ w' = w := by
  go_enter Tryz.func43, Tryz.ntmps43
  go_wp2
  go_ret
  exact ⟨rfl, rfl⟩
theorem at46 (g : Int) (x : ByteArray) (w : World) : Calls Tryz.prog 54 #[.int .i64 g, .string x] w fun e w' => e = .returned (.agg #[.int .i64 g, .int .i64 0, .string ⟨#[97]⟩, .int .i64 1, .int .i64 0, .string x]) ∧ Below w.heap.size w w' := by
  have m := heap_alloc_new w (.cells #[.int .i64 g, .int .i64 0, .string ⟨#[97]⟩, .int .i64 1, .int .i64 0, .string x] 53)
  have hb : Below w.heap.size w (w.alloc (.cells #[.int .i64 g, .int .i64 0, .string ⟨#[97]⟩, .int .i64 1, .int .i64 0, .string x] 53)) := (Below.refl _ w).alloc (Nat.le_refl _) _
  have HM := hide (And.intro m hb)
  clear m hb
  go_enter Tryz.func54, Tryz.ntmps54
  go_wp2
  refine ret_row w.heap.size [.int .i64 g, .int .i64 0, .string ⟨#[97]⟩, .int .i64 1, .int .i64 0, .string x] rfl rfl Tryz.underlying53 rfl (by kernel_rfl) HM.out.1 rfl ?_
  exact ⟨rfl, HM.out.2⟩
theorem refText_any (s : ByteArray) (w : World) : Calls Tryz.prog 111 #[.string s] w fun e w' => e = .returned (.bool (txtB s)) ∧ w' = w := by
  unfold txtB
  by_cases h : s.size ≤ 256
  · have h1 : (s.size : Int) ≤ 256 := by omega
    have h2 : decide ((s.size : Int) ≤ 256) = true := by simpa using h1
    have h3 : decide (s.size ≤ 256) = true := by simpa using h
    rw [h3]
    go_enter Tryz.func111, Tryz.ntmps111
    go_wp2
    go_ret
    exact ⟨rfl, rfl⟩
  · have h1 : ¬ (s.size : Int) ≤ 256 := by omega
    have h2 : decide ((s.size : Int) ≤ 256) = false := by simpa using h1
    have h3 : decide (s.size ≤ 256) = false := by simpa using h
    rw [h3]
    go_enter Tryz.func111, Tryz.ntmps111
    go_wp2
    go_ret
    exact ⟨rfl, rfl⟩
abbrev tA : ByteArray := ⟨#[97]⟩
abbrev tB : ByteArray := ⟨#[98]⟩
abbrev tC : ByteArray := ⟨#[99]⟩
theorem good_ba : goodL [(atS 2, tB), (atS 1, tA)] = true := by decide +kernel
theorem good_11 : goodL [(atS 1, tA), (atS 1, tB)] = false := by decide +kernel
theorem may_ab : mayL [kvE (atS 1, tA), kvE (atS 2, tB)] = true := by decide +kernel
theorem els_ab : (elsL [kvE (atS 1, tA), kvE (atS 2, tB)]).map Prod.snd = [tA, tB] := by decide +kernel
theorem wr_3 : okWr [kvE (atS 1, tA), kvE (atS 2, tB)] (atS 3) tC = true := by decide +kernel
theorem wr_2 : okWr [kvE (atS 1, tA), kvE (atS 2, tB)] (atS 2) tC = false := by decide +kernel
theorem one_3 : oneL [(keyT (atS 3), tC)] = (tC, true) := by decide +kernel
theorem one_ab : oneL [kvE (atS 1, tA), kvE (atS 2, tB)] = (⟨#[]⟩, false) := rfl
theorem cmp_21 : ¬ Pm.cmpB (kvE (atS 2, tB)).1 (kvE (atS 1, tA)).1 = -1 := by decide +kernel
theorem perm_two {α : Type} {l : List α} {a b : α} (h : l.Perm [a, b]) : l = [a, b] ∨ l = [b, a] := by
  have hl := h.length_eq
  match l, hl with
  | [x, y], _ =>
    have hx : x ∈ [a, b] := h.mem_iff.1 (by simp)
    simp only [List.mem_cons, List.not_mem_nil, or_false] at hx
    rcases hx with rfl | rfl
    · have := (List.perm_cons x).1 h
      rw [List.perm_singleton] at this
      left; rw [this]
    · have h2 := h.trans (List.Perm.swap x a [])
      have := (List.perm_cons x).1 h2
      rw [List.perm_singleton] at this
      right; rw [this]
theorem list_ab {t : Pm.T} (h : t.list.Perm ([(atS 2, tB), (atS 1, tA)].map kvE)) (hs : Pm.Srt t.list) : t.list = [kvE (atS 1, tA), kvE (atS 2, tB)] := by
  rcases perm_two h with e | e
  · rw [e] at hs
    have : Pm.cmpB (kvE (atS 2, tB)).1 (kvE (atS 1, tA)).1 = -1 := (List.pairwise_cons.1 hs).1 _ (by simp)
    exact absurd this cmp_21
  · exact e
end Go.Proofs.YtkkpdgfllnbigaaGreat
namespace Go.Proofs.YtkkpdgfllnbigaaGreat
open Go.RowKit Go.Shelf
set_option linter.unusedSimpArgs false
attribute [local go_sem] Oper.semAt_some

theorem exec_st27 {ev' : Operand → Value} {x y : Operand} {T : TypeId} {w : World} {B : Nat} {u : Value} {pt : Option Addr} (hx : ev' x = .pointer (some ⟨B, 0, none⟩)) (hy : ev' y = .agg #[.pointer pt]) (h : w.cell? ⟨B, 0, none⟩ = some u) (hf : w.frozen? ⟨B, 0, none⟩ = false) : (execOp ev' { dst := none, op := .store 27 x y, type := T, pos := "", after := #[], guard := none }).run Tryz.prog w = .ok .skip (w.setCell ⟨B, 0, none⟩ (.pointer pt)) := by
  unfold execOp
  simp only [hx, hy]
  go_simp
theorem exec_al27 {ev' : Operand → Value} {T : TypeId} (w : World) : (execOp ev' { dst := none, op := .alloc 27, type := T, pos := "", after := #[], guard := none }).run Tryz.prog w = .ok (.value (.pointer (some ⟨w.heap.size, 0, none⟩))) (w.alloc (.cells #[.pointer none] 27)) := by
  unfold execOp
  go_simp
/-- A map in a box. -/
def Boxd (w : World) (B : Nat) (pt : Option Addr) (t : Pm.T) : Prop := w.heap[B]? = some (.cells #[.pointer pt] 27 (0, 0)) ∧ t.ptr = .pointer pt ∧ Mg w t
theorem Boxd.below {w w' : World} {B : Nat} {pt : Option Addr} {t : Pm.T} (h : Boxd w B pt t) (hb : Below w.heap.size w w') : Boxd w' B pt t := ⟨(hb.block _ (Array.getElem?_eq_some_iff.1 h.1).1).trans h.1, h.2.1, h.2.2.below hb⟩
theorem Boxd.cell {w : World} {B : Nat} {pt : Option Addr} {t : Pm.T} (h : Boxd w B pt t) : w.cell? ⟨B, 0, none⟩ = some (.pointer pt) := (cell_of_row _ _ 0 _ 27 (0, 0) h.1).trans rfl
theorem Mg.aside {w w' : World} {B : Nat} {x : Value} {t : Pm.T} (h : Mg w t) (hw : w.heap[B]? = some (.cells #[x] 27 (0, 0))) (ho : Only (fun j => j = B) w w') : Mg w' t := ⟨Pm.In.aside hw ho h.inn, h.srt, h.bal, h.few, h.key⟩
/-- Of, answered by a pointer. -/
theorem ofP {w : World} {ao : Option Addr} {c : Nat} (l : List El) (h : Re w ao l) (hl : l.length ≤ 400) : Calls Tryz.prog 41 #[.slice ao l.length c] w fun e w' => ∃ t pt, t.ptr = .pointer pt ∧ e = .returned (.tuple #[.agg #[.pointer pt], .int .i64 (if goodL l = true then 0 else 2)]) ∧ Mg w' t ∧ (goodL l = true → t.list.Perm (l.map kvE)) ∧ (goodL l = false → t = .nil) ∧ Below w.heap.size w w' := (rOf_any l h hl).mono fun e w' hh => by
  obtain ⟨t, he, hm, hb, h1, h2, -⟩ := hh
  obtain ⟨pt, hpt⟩ := t.ptr_shape
  exact ⟨t, pt, hpt, by rw [he]; unfold Pm.mv; rw [hpt], hm, h1, h2, hb⟩
theorem ofPO {w : World} {ao : Option Addr} {c : Nat} (l : List El) (h : Re w ao l) (hl : l.length ≤ 400) : Calls Tryz.prog 41 #[.slice ao l.length c] w fun e w' => ∃ t pt, t.ptr = .pointer pt ∧ e = .returned (.tuple #[.agg #[.pointer pt], .int .i64 (if goodL l = true then 0 else 2)]) ∧ Mg w' t ∧ (goodL l = true → t.list.Perm (l.map kvE)) ∧ (goodL l = false → t = .nil) ∧ Below w.heap.size w w' ∧ t.over w.heap.size := (rOf_any l h hl).mono fun e w' hh => by
  obtain ⟨t, he, hm, hb, h1, h2, h3⟩ := hh
  obtain ⟨pt, hpt⟩ := t.ptr_shape
  exact ⟨t, pt, hpt, by rw [he]; unfold Pm.mv; rw [hpt], hm, h1, h2, hb, h3⟩
theorem writeP {w : World} {t : Pm.T} {pm : Option Addr} (s : St) (x : ByteArray) (h : Mg w t) (hp : t.ptr = .pointer pm) : Calls Tryz.prog 46 #[.agg #[.pointer pm], svT s, .string x] w fun e w' => ∃ t' pt, t'.ptr = .pointer pt ∧ e = .returned (.tuple #[.agg #[.pointer pt], .int .i64 (if okWr t.list s x then 0 else 2)]) ∧ Mg w' t' ∧ (t'.list = if okWr t.list s x then [(keyT s, x)] else []) ∧ Below w.heap.size w w' := by
  have := rWrite_any t s x w h
  unfold Pm.mv at this
  rw [hp] at this
  refine this.mono fun e w' hh => ?_
  obtain ⟨t', he, hm, hl, hb⟩ := hh
  obtain ⟨pt, hpt⟩ := t'.ptr_shape
  exact ⟨t', pt, hpt, by rw [he]; unfold Pm.mv; rw [hpt], hm, hl, hb⟩
theorem oneP {w : World} {t : Pm.T} {pm : Option Addr} (h : Mg w t) (hp : t.ptr = .pointer pm) : Calls Tryz.prog 55 #[.agg #[.pointer pm]] w fun e w' => e = .returned (.tuple #[.string (oneL t.list).1, .bool (oneL t.list).2]) ∧ Below w.heap.size w w' := by
  have := rOne_any t w h
  unfold Pm.mv at this
  rw [hp] at this
  exact this
theorem textsP {w : World} {t : Pm.T} {pm : Option Addr} (h : Mg w t) (hp : t.ptr = .pointer pm) : Calls Tryz.prog 52 #[.agg #[.pointer pm]] w fun e w' => ∃ ao c, e = .returned (.tuple #[.slice ao ((elsL t.list).map Prod.snd).length c, .int .i64 (if mayL t.list then 0 else 2)]) ∧ Ot w' w.heap.size (.slice ao ((elsL t.list).map Prod.snd).length c) ((elsL t.list).map Prod.snd) ∧ Below w.heap.size w w' := by
  have := rTexts_any t w h.inn h.srt h.key (by have := h.few; omega)
  unfold Pm.mv at this
  rw [hp] at this
  exact this
theorem Ot.rs {w : World} {B n c : Nat} {ao : Option Addr} {L : List ByteArray} (h : Ot w B (.slice ao n c) L) : Rs w ao L := by
  rcases h with ⟨h1, h2⟩
  rcases h2 with ⟨e, e2⟩ | ⟨g, cap, cur, e, hb, hg, hnc, hcm, hcs, htake⟩
  · have : L = [] := List.eq_nil_of_length_eq_zero e2
    subst this
    exact Rs.nil _ _
  · injection e with e1 e2 e3
    subst e1
    refine ⟨fun h => (by cases h), fun a ha j s hj => ?_⟩
    cases ha
    rw [add_lit, cell_of_row _ _ (0 + j) _ 9 (0, 0) hg, Nat.zero_add]
    have hj' : (L.map Value.string)[j]? = some (.string s) := by rw [List.getElem?_map, hj]; rfl
    rw [← htake, List.getElem?_take] at hj'
    split at hj'
    · simpa using hj'
    · cases hj'
theorem two_re {W : World} {b : Nat} {x y : El} (h : W.heap[b]? = some (.cells (flatE [x, y]).toArray 53 (0, 0))) : Re W (some ⟨b, 0, none⟩) [x, y] := Re.ofRe0 (fun j v hj => by
  rw [cell_of_row _ _ (0 + j) (flatE [x, y]).toArray 53 (0, 0) h, Nat.zero_add]
  simpa using hj)
end Go.Proofs.YtkkpdgfllnbigaaGreat
namespace Go.Proofs.YtkkpdgfllnbigaaGreat
open Go.RowKit Go.Shelf
set_option linter.unusedSimpArgs false
attribute [local go_sem] Oper.semAt_some

end Go.Proofs.YtkkpdgfllnbigaaGreat
namespace Go.Proofs.YtkkpdgfllnbigaaGreat
open Go.RowKit Go.Shelf
set_option linter.unusedSimpArgs false
attribute [local go_sem] Oper.semAt_some

theorem run_ne43 (s t : St) (w : World) : (binOp .neq 43 (svT s) (svT t)).run Tryz.prog w = .ok (.bool (!decide (s = t))) w := by
  obtain ⟨g, r, l, n, i⟩ := s
  obtain ⟨g', r', l', n', i'⟩ := t
  have h := sameE_dec ((g, r, l, n, i), ⟨#[]⟩) ((g', r', l', n', i'), ⟨#[]⟩)
  show (binOp .neq 43 (sv g r l n i) (sv g' r' l' n' i')).run Tryz.prog w = _
  rw [run_neq_struct, show (10000 : Nat) = 9996 + 4 from rfl, equalIn52]
  simp only [sameE] at h
  have e : decide (((g, r, l, n, i) : St) = (g', r', l', n', i')) = decide ((((g, r, l, n, i), (⟨#[]⟩ : ByteArray)) : El) = ((g', r', l', n', i'), ⟨#[]⟩)) := by
    rw [decide_eq_decide]
    simp
  rw [e, ← h]
  simp
end Go.Proofs.YtkkpdgfllnbigaaGreat
namespace Go.Proofs.YtkkpdgfllnbigaaGreat
open Go.RowKit Go.Shelf
set_option linter.unusedSimpArgs false

end Go.Proofs.YtkkpdgfllnbigaaGreat
namespace Go.Proofs.YtkkpdgfllnbigaaGreat
open Go.RowKit Go.Shelf
set_option linter.unusedSimpArgs false

theorem ba_ext {a b : ByteArray} (h : a.data.toList = b.data.toList) : a = b := by
  apply ByteArray.ext; exact Array.toList_inj.1 h
theorem ext_mid (s : ByteArray) (a i : Nat) : s.extract a i = ⟨((s.data.toList.drop a).take (i - a)).toArray⟩ := by
  apply ByteArray.ext
  apply Array.toList_inj.1
  simp [ByteArray.data_extract, List.drop_take]
end Go.Proofs.YtkkpdgfllnbigaaGreat
