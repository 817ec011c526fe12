/-
  The document's SameElements 65, Same 24, SameTexts 31; the laws' at 38.
  register: the law's small functions: at (46), num (35), the document's Text (55).
  register: the chapter's rows (known 32).
  REFKEY: the document's own key of a stamp.
  REFOK: the document's reading of a key.
  register: what the reference says of a map (ref12.Map 41), Three where it refuses (45), going over nothing (48).
  register: going over a map that may not be tells nothing (goes 48).
  Going over a map tells its elements (goes 52).
  register: the chapter's rows (known 32).
  What Put does to a list: order, members, length; what Get finds.
  The law RegisterMaps (7), walked: its maps are built by Put, asked by Get, and what may not be is refused by every call.
  register: the document's Fits (39), the law's texts (82).
  tagset and register: may these elements be (the document's May, 11).
  tagset and register: the document's May says what Of asks.
-/
import Derived.Test.YtkkpdgfllnbigaaGreatMg16
import Derived.Test.YtkkpdgfllnbigaaGreatMg12
import Derived.Test.YtkkpdgfllnbigaaGreatReg7
import Derived.Deep.DeepCutAuto
import Derived.Deep.CutBlock
import Derived.Test.YtkkpdgfllnbigaaGreatMg9
import Derived.Test.YtkkpdgfllnbigaaGreatMg10
import Derived.Test.YtkkpdgfllnbigaaGreatMg8
namespace Go.Proofs.YtkkpdgfllnbigaaGreat
open Go.RowKit Go.Shelf
set_option linter.unusedSimpArgs false
attribute [local go_sem] Oper.semAt_some

set_option maxHeartbeats 4000000 in
set_option maxRecDepth 100000 in
theorem sameEls_any {w : World} {ao bo : Option Addr} {c d : Nat} {l m : List El} (h : Re w ao l) (k : Re w bo m) (hl : l.length ≤ 1000000) (hm : m.length ≤ 1000000) : Calls Tryz.prog 39 #[.slice ao l.length c, .slice bo m.length d] w fun e w' => e = .returned (.bool (decide (l = m))) ∧ ∃ n, w' = w.drewN n := by
  obtain ⟨N, hN⟩ : ∃ N, N = l.length := ⟨_, rfl⟩
  obtain ⟨M, hM⟩ : ∃ N, N = m.length := ⟨_, rfl⟩
  obtain ⟨R, hR⟩ : ∃ R, R = decide (l = m) := ⟨_, rfl⟩
  rw [← hR]
  rw [← hN] at hl ⊢
  rw [← hM] at hm ⊢
  have H := hide (And.intro hN (And.intro hM (And.intro h k)))
  have HR := hide hR
  clear hN hM hR h k
  by_cases hNM : N = M
  · subst hNM
    go_enter Tryz.func39, Tryz.ntmps39
    go_wp2
    go_loopw [5] (fun iv wr => ∃ i : Nat, i ≤ N ∧ iv = .int .i64 i ∧ Hid (l.take i = m.take i) ∧ ∃ n, wr = w.drewN n) (fun iv _ => N - (intOf iv).toNat)
    case atStart => exact ⟨0, by omega, rfl, hide (by simp), 0, rfl⟩
    case round =>
      obtain ⟨i, hi, rfl, hrest, n, hwr⟩ := hrel
      have hlr : Re wr ao l := by rw [hwr]; exact ⟨H.out.2.2.1.1, H.out.2.2.1.2⟩
      have hmr : Re wr bo m := by rw [hwr]; exact ⟨H.out.2.2.2.1, H.out.2.2.2.2⟩
      have HWR := hide hwr
      clear hwr
      by_cases h1 : i < N
      · have z1 : (i : Int) < (N : Int) := by omega
        have d1 : decide (i < N) = true := by simpa using h1
        obtain ⟨x, hx⟩ : ∃ x, l[i]? = some x := ⟨_, List.getElem?_eq_getElem (by rw [← H.out.1]; exact h1)⟩
        obtain ⟨y, hy⟩ : ∃ y, m[i]? = some y := ⟨_, List.getElem?_eq_getElem (by rw [← H.out.2.1]; exact h1)⟩
        obtain ⟨ab, off, rfl, q0, q1, q2, q3, q4, q5⟩ := hlr.cells hx
        obtain ⟨bb, ob, rfl, p0, p1, p2, p3, p4, p5⟩ := hmr.cells hy
        have hne := fun W => run_ne77 x y W
        have HX := hide (And.intro hx hy)
        clear hx hy hlr hmr
        by_cases hxy : x = y
        · have HXY := hide hxy
          have d2 : decide (x = y) = true := by simpa using hxy
          rw [d2] at hne
          clear hxy d2
          obtain ⟨⟨g, r, l0, n0, i0⟩, t0⟩ := x
          obtain ⟨⟨g', r', l0', n0', i0'⟩, t0'⟩ := y
          dsimp only at q0 q1 q2 q3 q4 q5 p0 p1 p2 p3 p4 p5
          go_wp2
          go_quiet (fail)
          go_wp2
          go_roundw
          case rel => exact ⟨i + 1, by omega, by go_num, hide (by rw [List.take_add_one, List.take_add_one, HX.out.1, HX.out.2, hrest.out, HXY.out]), _, by rw [HWR.out, World.drewN_drewN]⟩
          case measure => simp [intOf]; omega
        · have hd : R = false := by
            rw [HR.out]
            simp only [decide_eq_false_iff_not]
            intro e
            have := HX.out.1.symm.trans ((congrArg (·[i]?) e).trans HX.out.2)
            exact hxy (by simpa using this)
          have d2 : decide (x = y) = false := by simpa using hxy
          rw [d2] at hne
          have HD := hide hd
          clear hd hxy d2
          obtain ⟨⟨g, r, l0, n0, i0⟩, t0⟩ := x
          obtain ⟨⟨g', r', l0', n0', i0'⟩, t0'⟩ := y
          dsimp only at q0 q1 q2 q3 q4 q5 p0 p1 p2 p3 p4 p5
          go_wp2
          go_quiet (fail)
          go_wp2
          go_ret
          exact ⟨by rw [HD.out]; rfl, _, by rw [HWR.out, World.drewN_drewN]⟩
      · obtain rfl : i = N := by omega
        have d1 : decide (i < i) = false := by simp
        go_wp2
        go_ret
        have : l = m := by
          have := hrest.out
          rwa [show l.take i = l by rw [H.out.1]; exact List.take_length, show m.take i = m by rw [H.out.2.1]; exact List.take_length] at this
        exact ⟨by rw [HR.out, decide_eq_true this]; rfl, n, HWR.out⟩
  · have e1 : ((N : Int) == (M : Int)) = false := by rw [beq_eq_false_iff_ne]; omega
    have hd : R = false := by
      rw [HR.out]
      simp only [decide_eq_false_iff_not]
      intro e
      exact hNM (by rw [H.out.1, H.out.2.1, e])
    subst hd
    go_enter Tryz.func39, Tryz.ntmps39
    go_wp2
    go_ret
    exact ⟨rfl, 0, rfl⟩

set_option maxHeartbeats 4000000 in
set_option maxRecDepth 100000 in
theorem sameTexts_any {w : World} {ao bo : Option Addr} {c d : Nat} {l m : List ByteArray} (h : Rs w ao l) (k : Rs w bo m) (hl : l.length ≤ 1000000) (hm : m.length ≤ 1000000) : Calls Tryz.prog 108 #[.slice ao l.length c, .slice bo m.length d] w fun e w' => e = .returned (.bool (decide (l = m))) ∧ ∃ n, w' = w.drewN n := by
  obtain ⟨N, hN⟩ : ∃ N, N = l.length := ⟨_, rfl⟩
  obtain ⟨M, hM⟩ : ∃ N, N = m.length := ⟨_, rfl⟩
  obtain ⟨R, hR⟩ : ∃ R, R = decide (l = m) := ⟨_, rfl⟩
  rw [← hR]
  rw [← hN] at hl ⊢
  rw [← hM] at hm ⊢
  have H := hide (And.intro hN (And.intro hM (And.intro h k)))
  have HR := hide hR
  clear hN hM hR h k
  by_cases hNM : N = M
  · subst hNM
    go_enter Tryz.func108, Tryz.ntmps108
    go_wp2
    go_loopw [5] (fun iv wr => ∃ i : Nat, i ≤ N ∧ iv = .int .i64 i ∧ Hid (l.take i = m.take i) ∧ ∃ n, wr = w.drewN n) (fun iv _ => N - (intOf iv).toNat)
    case atStart => exact ⟨0, by omega, rfl, hide (by simp), 0, rfl⟩
    case round =>
      obtain ⟨i, hi, rfl, hrest, n, hwr⟩ := hrel
      have hlr : Rs wr ao l := by rw [hwr]; exact ⟨H.out.2.2.1.1, H.out.2.2.1.2⟩
      have hmr : Rs wr bo m := by rw [hwr]; exact ⟨H.out.2.2.2.1, H.out.2.2.2.2⟩
      have HWR := hide hwr
      clear hwr
      by_cases h1 : i < N
      · have z1 : (i : Int) < (N : Int) := by omega
        have d1 : decide (i < N) = true := by simpa using h1
        obtain ⟨x, hx⟩ : ∃ x, l[i]? = some x := ⟨_, List.getElem?_eq_getElem (by rw [← H.out.1]; exact h1)⟩
        obtain ⟨y, hy⟩ : ∃ y, m[i]? = some y := ⟨_, List.getElem?_eq_getElem (by rw [← H.out.2.1]; exact h1)⟩
        obtain ⟨ab, off, rfl, q0⟩ := hlr.at hx
        obtain ⟨bb, ob, rfl, p0⟩ := hmr.at hy
        have HX := hide (And.intro hx hy)
        clear hx hy hlr hmr
        by_cases hxy : x = y
        · have HXY := hide hxy
          have d2 : (x.toList == y.toList) = true := bytes_same.2 hxy
          clear hxy
          go_wp2
          go_quiet (fail)
          go_wp2
          go_roundw
          case rel => exact ⟨i + 1, by omega, by go_num, hide (by rw [List.take_add_one, List.take_add_one, HX.out.1, HX.out.2, hrest.out, HXY.out]), _, by rw [HWR.out, World.drewN_drewN]⟩
          case measure => simp [intOf]; omega
        · have hd : R = false := by
            rw [HR.out]
            simp only [decide_eq_false_iff_not]
            intro e
            have := HX.out.1.symm.trans ((congrArg (·[i]?) e).trans HX.out.2)
            exact hxy (by simpa using this)
          have d2 : (x.toList == y.toList) = false := by rw [Bool.eq_false_iff, Ne, bytes_same]; exact hxy
          have HD := hide hd
          clear hd hxy
          go_wp2
          go_quiet (fail)
          go_wp2
          go_ret
          exact ⟨by rw [HD.out]; rfl, _, by rw [HWR.out, World.drewN_drewN]⟩
      · obtain rfl : i = N := by omega
        have d1 : decide (i < i) = false := by simp
        go_wp2
        go_ret
        have : l = m := by
          have := hrest.out
          rwa [show l.take i = l by rw [H.out.1]; exact List.take_length, show m.take i = m by rw [H.out.2.1]; exact List.take_length] at this
        exact ⟨by rw [HR.out, decide_eq_true this]; rfl, n, HWR.out⟩
  · have e1 : ((N : Int) == (M : Int)) = false := by rw [beq_eq_false_iff_ne]; omega
    have hd : R = false := by
      rw [HR.out]
      simp only [decide_eq_false_iff_not]
      intro e
      exact hNM (by rw [H.out.1, H.out.2.1, e])
    subst hd
    go_enter Tryz.func108, Tryz.ntmps108
    go_wp2
    go_ret
    exact ⟨rfl, 0, rfl⟩


/-- The laws' stamps. -/
def atS (g : Int) : St := (g, 0, ⟨#[97]⟩, 1, 0)
end Go.Proofs.YtkkpdgfllnbigaaGreat
namespace Go.Proofs.YtkkpdgfllnbigaaGreat
open Go.RowKit Go.Shelf
set_option linter.unusedSimpArgs false
attribute [local go_sem] Oper.semAt_some

theorem num35 (n : Int) (w : World) : Calls Tryz.prog 43 #[.int .i64 n] w fun e w' => e = .returned (.int .i64 n) ∧ w' = w := by
  go_enter Tryz.func43, Tryz.ntmps43
  go_wp2
  go_ret
  exact ⟨rfl, rfl⟩
theorem at46 (g : Int) (x : ByteArray) (w : World) : Calls Tryz.prog 54 #[.int .i64 g, .string x] w fun e w' => e = .returned (.agg #[.int .i64 g, .int .i64 0, .string ⟨#[97]⟩, .int .i64 1, .int .i64 0, .string x]) ∧ Below w.heap.size w w' := by
  have m := heap_alloc_new w (.cells #[.int .i64 g, .int .i64 0, .string ⟨#[97]⟩, .int .i64 1, .int .i64 0, .string x] 53)
  have hb : Below w.heap.size w (w.alloc (.cells #[.int .i64 g, .int .i64 0, .string ⟨#[97]⟩, .int .i64 1, .int .i64 0, .string x] 53)) := (Below.refl _ w).alloc (Nat.le_refl _) _
  have HM := hide (And.intro m hb)
  clear m hb
  go_enter Tryz.func54, Tryz.ntmps54
  go_wp2
  refine ret_row w.heap.size [.int .i64 g, .int .i64 0, .string ⟨#[97]⟩, .int .i64 1, .int .i64 0, .string x] rfl rfl Tryz.underlying53 rfl (by kernel_rfl) HM.out.1 rfl ?_
  exact ⟨rfl, HM.out.2⟩
theorem refText_any (s : ByteArray) (w : World) : Calls Tryz.prog 111 #[.string s] w fun e w' => e = .returned (.bool (txtB s)) ∧ w' = w := by
  unfold txtB
  by_cases h : s.size ≤ 256
  · have h1 : (s.size : Int) ≤ 256 := by omega
    have h2 : decide ((s.size : Int) ≤ 256) = true := by simpa using h1
    have h3 : decide (s.size ≤ 256) = true := by simpa using h
    rw [h3]
    go_enter Tryz.func111, Tryz.ntmps111
    go_wp2
    go_ret
    exact ⟨rfl, rfl⟩
  · have h1 : ¬ (s.size : Int) ≤ 256 := by omega
    have h2 : decide ((s.size : Int) ≤ 256) = false := by simpa using h1
    have h3 : decide (s.size ≤ 256) = false := by simpa using h
    rw [h3]
    go_enter Tryz.func111, Tryz.ntmps111
    go_wp2
    go_ret
    exact ⟨rfl, rfl⟩
abbrev tA : ByteArray := ⟨#[97]⟩
abbrev tB : ByteArray := ⟨#[98]⟩
abbrev tC : ByteArray := ⟨#[99]⟩
theorem good_ba : goodL [(atS 2, tB), (atS 1, tA)] = true := by decide +kernel
theorem wr_3 : okWr [kvE (atS 1, tA), kvE (atS 2, tB)] (atS 3) tC = true := by decide +kernel
theorem wr_2 : okWr [kvE (atS 1, tA), kvE (atS 2, tB)] (atS 2) tC = false := by decide +kernel
theorem cmp_21 : ¬ Pm.cmpB (kvE (atS 2, tB)).1 (kvE (atS 1, tA)).1 = -1 := by decide +kernel
theorem perm_two {α : Type} {l : List α} {a b : α} (h : l.Perm [a, b]) : l = [a, b] ∨ l = [b, a] := by
  have hl := h.length_eq
  match l, hl with
  | [x, y], _ =>
    have hx : x ∈ [a, b] := h.mem_iff.1 (by simp)
    simp only [List.mem_cons, List.not_mem_nil, or_false] at hx
    rcases hx with rfl | rfl
    · have := (List.perm_cons x).1 h
      rw [List.perm_singleton] at this
      left; rw [this]
    · have h2 := h.trans (List.Perm.swap x a [])
      have := (List.perm_cons x).1 h2
      rw [List.perm_singleton] at this
      right; rw [this]
theorem list_ab {t : Pm.T} (h : t.list.Perm ([(atS 2, tB), (atS 1, tA)].map kvE)) (hs : Pm.Srt t.list) : t.list = [kvE (atS 1, tA), kvE (atS 2, tB)] := by
  rcases perm_two h with e | e
  · rw [e] at hs
    have : Pm.cmpB (kvE (atS 2, tB)).1 (kvE (atS 1, tA)).1 = -1 := (List.pairwise_cons.1 hs).1 _ (by simp)
    exact absurd this cmp_21
  · exact e
end Go.Proofs.YtkkpdgfllnbigaaGreat
namespace Go.Proofs.YtkkpdgfllnbigaaGreat
open Go.RowKit Go.Shelf
set_option linter.unusedSimpArgs false
attribute [local go_sem] Oper.semAt_some

theorem exec_st27 {ev' : Operand → Value} {x y : Operand} {T : TypeId} {w : World} {B : Nat} {u : Value} {pt : Option Addr} (hx : ev' x = .pointer (some ⟨B, 0, none⟩)) (hy : ev' y = .agg #[.pointer pt]) (h : w.cell? ⟨B, 0, none⟩ = some u) (hf : w.frozen? ⟨B, 0, none⟩ = false) : (execOp ev' { dst := none, op := .store 27 x y, type := T, pos := "", after := #[], guard := none }).run Tryz.prog w = .ok .skip (w.setCell ⟨B, 0, none⟩ (.pointer pt)) := by
  unfold execOp
  simp only [hx, hy]
  go_simp
theorem exec_al27 {ev' : Operand → Value} {T : TypeId} (w : World) : (execOp ev' { dst := none, op := .alloc 27, type := T, pos := "", after := #[], guard := none }).run Tryz.prog w = .ok (.value (.pointer (some ⟨w.heap.size, 0, none⟩))) (w.alloc (.cells #[.pointer none] 27)) := by
  unfold execOp
  go_simp
/-- A map in a box. -/
def Boxd (w : World) (B : Nat) (pt : Option Addr) (t : Pm.T) : Prop := w.heap[B]? = some (.cells #[.pointer pt] 27 (0, 0)) ∧ t.ptr = .pointer pt ∧ Mg w t
theorem Boxd.below {w w' : World} {B : Nat} {pt : Option Addr} {t : Pm.T} (h : Boxd w B pt t) (hb : Below w.heap.size w w') : Boxd w' B pt t := ⟨(hb.block _ (Array.getElem?_eq_some_iff.1 h.1).1).trans h.1, h.2.1, h.2.2.below hb⟩
theorem Boxd.cell {w : World} {B : Nat} {pt : Option Addr} {t : Pm.T} (h : Boxd w B pt t) : w.cell? ⟨B, 0, none⟩ = some (.pointer pt) := (cell_of_row _ _ 0 _ 27 (0, 0) h.1).trans rfl
theorem Mg.aside {w w' : World} {B : Nat} {x : Value} {t : Pm.T} (h : Mg w t) (hw : w.heap[B]? = some (.cells #[x] 27 (0, 0))) (ho : Only (fun j => j = B) w w') : Mg w' t := ⟨Pm.In.aside hw ho h.inn, h.srt, h.bal, h.few, h.key⟩
/-- Of, answered by a pointer. -/
theorem ofP {w : World} {ao : Option Addr} {c : Nat} (l : List El) (h : Re w ao l) (hl : l.length ≤ 400) : Calls Tryz.prog 41 #[.slice ao l.length c] w fun e w' => ∃ t pt, t.ptr = .pointer pt ∧ e = .returned (.tuple #[.agg #[.pointer pt], .int .i64 (if goodL l = true then 0 else 2)]) ∧ Mg w' t ∧ (goodL l = true → t.list.Perm (l.map kvE)) ∧ (goodL l = false → t = .nil) ∧ Below w.heap.size w w' := (rOf_any l h hl).mono fun e w' hh => by
  obtain ⟨t, he, hm, hb, h1, h2, -⟩ := hh
  obtain ⟨pt, hpt⟩ := t.ptr_shape
  exact ⟨t, pt, hpt, by rw [he]; unfold Pm.mv; rw [hpt], hm, h1, h2, hb⟩
theorem ofPO {w : World} {ao : Option Addr} {c : Nat} (l : List El) (h : Re w ao l) (hl : l.length ≤ 400) : Calls Tryz.prog 41 #[.slice ao l.length c] w fun e w' => ∃ t pt, t.ptr = .pointer pt ∧ e = .returned (.tuple #[.agg #[.pointer pt], .int .i64 (if goodL l = true then 0 else 2)]) ∧ Mg w' t ∧ (goodL l = true → t.list.Perm (l.map kvE)) ∧ (goodL l = false → t = .nil) ∧ Below w.heap.size w w' ∧ t.over w.heap.size := (rOf_any l h hl).mono fun e w' hh => by
  obtain ⟨t, he, hm, hb, h1, h2, h3⟩ := hh
  obtain ⟨pt, hpt⟩ := t.ptr_shape
  exact ⟨t, pt, hpt, by rw [he]; unfold Pm.mv; rw [hpt], hm, h1, h2, hb, h3⟩
theorem Ot.rs {w : World} {B n c : Nat} {ao : Option Addr} {L : List ByteArray} (h : Ot w B (.slice ao n c) L) : Rs w ao L := by
  rcases h with ⟨h1, h2⟩
  rcases h2 with ⟨e, e2⟩ | ⟨g, cap, cur, e, hb, hg, hnc, hcm, hcs, htake⟩
  · have : L = [] := List.eq_nil_of_length_eq_zero e2
    subst this
    exact Rs.nil _ _
  · injection e with e1 e2 e3
    subst e1
    refine ⟨fun h => (by cases h), fun a ha j s hj => ?_⟩
    cases ha
    rw [add_lit, cell_of_row _ _ (0 + j) _ 9 (0, 0) hg, Nat.zero_add]
    have hj' : (L.map Value.string)[j]? = some (.string s) := by rw [List.getElem?_map, hj]; rfl
    rw [← htake, List.getElem?_take] at hj'
    split at hj'
    · simpa using hj'
    · cases hj'
theorem two_re {W : World} {b : Nat} {x y : El} (h : W.heap[b]? = some (.cells (flatE [x, y]).toArray 53 (0, 0))) : Re W (some ⟨b, 0, none⟩) [x, y] := Re.ofRe0 (fun j v hj => by
  rw [cell_of_row _ _ (0 + j) (flatE [x, y]).toArray 53 (0, 0) h, Nat.zero_add]
  simpa using hj)
end Go.Proofs.YtkkpdgfllnbigaaGreat
namespace Go.Proofs.YtkkpdgfllnbigaaGreat
open Go.RowKit Go.Shelf
set_option linter.unusedSimpArgs false

end Go.Proofs.YtkkpdgfllnbigaaGreat
namespace Go.Proofs.YtkkpdgfllnbigaaGreat
open Go.RowKit Go.Shelf
set_option linter.unusedSimpArgs false

theorem ba_ext {a b : ByteArray} (h : a.data.toList = b.data.toList) : a = b := by
  apply ByteArray.ext; exact Array.toList_inj.1 h
theorem ext_mid (s : ByteArray) (a i : Nat) : s.extract a i = ⟨((s.data.toList.drop a).take (i - a)).toArray⟩ := by
  apply ByteArray.ext
  apply Array.toList_inj.1
  simp [ByteArray.data_extract, List.drop_take]
end Go.Proofs.YtkkpdgfllnbigaaGreat
namespace Go.Proofs.YtkkpdgfllnbigaaGreat
open Go.RowKit Go.Shelf
set_option linter.unusedSimpArgs false
attribute [local go_sem] Oper.semAt_some

/-- Three, where one of the maps may not be. -/
theorem mayP {w : World} {t : Pm.T} {p : Option Addr} (h : Mg w t) (hp : t.ptr = .pointer p) : ∀ W, Below w.heap.size w W → Calls Tryz.prog 50 #[.agg #[.pointer p]] W fun e w' => e = .returned (.bool (mayL t.list)) ∧ Below W.heap.size W w' := fun W hW => by
  have := (h.below hW).may
  unfold Pm.mv at this
  rw [hp] at this
  exact this
end Go.Proofs.YtkkpdgfllnbigaaGreat
namespace Go.Proofs.YtkkpdgfllnbigaaGreat
open Go.RowKit Go.Shelf
set_option linter.unusedSimpArgs false
attribute [local go_sem] Oper.semAt_some

end Go.Proofs.YtkkpdgfllnbigaaGreat
namespace Go.Proofs.YtkkpdgfllnbigaaGreat
open Go.RowKit Go.Shelf
set_option linter.unusedSimpArgs false
attribute [local go_sem] Oper.semAt_some

theorem run_ne43 (s t : St) (w : World) : (binOp .neq 43 (svT s) (svT t)).run Tryz.prog w = .ok (.bool (!decide (s = t))) w := by
  obtain ⟨g, r, l, n, i⟩ := s
  obtain ⟨g', r', l', n', i'⟩ := t
  have h := sameE_dec ((g, r, l, n, i), ⟨#[]⟩) ((g', r', l', n', i'), ⟨#[]⟩)
  show (binOp .neq 43 (sv g r l n i) (sv g' r' l' n' i')).run Tryz.prog w = _
  rw [run_neq_struct, show (10000 : Nat) = 9996 + 4 from rfl, equalIn52]
  simp only [sameE] at h
  have e : decide (((g, r, l, n, i) : St) = (g', r', l', n', i')) = decide ((((g, r, l, n, i), (⟨#[]⟩ : ByteArray)) : El) = ((g', r', l', n', i'), ⟨#[]⟩)) := by
    rw [decide_eq_decide]
    simp
  rw [e, ← h]
  simp
end Go.Proofs.YtkkpdgfllnbigaaGreat
namespace Go.Proofs.YtkkpdgfllnbigaaGreat
open Go.RowKit Go.Shelf
set_option linter.unusedSimpArgs false
attribute [local go_sem] Oper.semAt_some

theorem fld53 (a b c d e f : Value) (w : World) : (Instr.field 53 (.agg #[a, b, c, d, e, f]) 0).run Tryz.prog w = .ok (.agg #[a, b, c, d, e]) w := by
  kernel_rfl
theorem exec_fld53 {ev' : Operand → Value} {x : Operand} {T : TypeId} {w : World} {a b c d e f : Value} (hx : ev' x = .agg #[a, b, c, d, e, f]) : (execOp ev' { dst := none, op := .field 53 x 0, type := T, pos := "", after := #[], guard := none }).run Tryz.prog w = .ok (.value (.agg #[a, b, c, d, e])) w := by
  simp [execOp, hx, fld53, Result.andThen]
def abL : List Kv := [kvE (atS 1, tA), kvE (atS 2, tB)]
end Go.Proofs.YtkkpdgfllnbigaaGreat
namespace Go.Proofs.YtkkpdgfllnbigaaGreat.Pm
open Go.RowKit Go.Shelf
set_option linter.unusedSimpArgs false

theorem ins_lessP {x : (ByteArray × ByteArray)} {k : ByteArray} {v : ByteArray} {l : List (ByteArray × ByteArray)} (h : cmpB x.1 k = -1) : ins k v (x :: l) = x :: ins k v l := by
  have hp : pos k (x :: l) = pos k l + 1 := by simp [pos, h]
  have hh : has k (x :: l) = has k l := by unfold has; rw [hp]; simp
  unfold ins
  rw [hp, hh]
  split <;> simp
theorem ins_memP {k : ByteArray} {v : ByteArray} {l : List (ByteArray × ByteArray)} {y : (ByteArray × ByteArray)} (h : y ∈ ins k v l) : y = (k, v) ∨ y ∈ l := by
  unfold ins at h
  rcases List.mem_append.1 h with h | h
  · exact .inr (List.mem_of_mem_take h)
  · rcases List.mem_cons.1 h with h | h
    · exact .inl h
    · exact .inr (List.mem_of_mem_drop h)
theorem srt_insP {l : List (ByteArray × ByteArray)} (h : Srt l) (k : ByteArray) (v : ByteArray) : Srt (ins k v l) := by
  induction l with
  | nil => simp [ins, pos, has, Srt]
  | cons x l ih =>
    obtain ⟨h1, h2⟩ := List.pairwise_cons.1 h
    by_cases hc : cmpB x.1 k = -1
    · rw [ins_lessP hc]
      refine List.Pairwise.cons (fun y hy => ?_) (ih h2)
      rcases ins_memP hy with rfl | hy
      · exact hc
      · exact h1 y hy
    · have hp : pos k (x :: l) = 0 := by simp [pos, hc]
      have hh : has k (x :: l) = decide (x.1 = k) := by unfold has; rw [hp]; rfl
      unfold ins
      rw [hp, hh]
      by_cases he : x.1 = k
      · simp only [he, decide_true, if_true, List.take_zero, List.nil_append, Nat.zero_add, List.drop_succ_cons, List.drop_zero]
        exact List.Pairwise.cons (fun y hy => by have := h1 y hy; rw [he] at this; exact this) h2
      · simp only [he, decide_false, Bool.false_eq_true, if_false, List.take_zero, List.nil_append, List.drop_zero]
        have hk : cmpB k x.1 = -1 := by
          have h3 := ord_B.range x.1 k
          have h4 := ord_B.anti k x.1
          rcases h3 with h3 | h3 | h3
          · exact (hc h3).elim
          · exact (he (ord_B.eq _ _ h3)).elim
          · have := ord_B.anti x.1 k; omega
        refine List.Pairwise.cons (fun y hy => ?_) h
        rcases List.mem_cons.1 hy with rfl | hy
        · exact hk
        · exact ord_B.trans _ _ _ hk (h1 y hy)
theorem mem_ins {l : List (ByteArray × ByteArray)} (h : Srt l) (k v : ByteArray) (x : ByteArray × ByteArray) : x ∈ ins k v l ↔ x = (k, v) ∨ (x ∈ l ∧ x.1 ≠ k) := by
  induction l with
  | nil => simp [ins, pos, has]
  | cons y l ih =>
    obtain ⟨h1, h2⟩ := List.pairwise_cons.1 h
    by_cases hc : cmpB y.1 k = -1
    · rw [ins_lessP hc, List.mem_cons, List.mem_cons, ih h2]
      have hy := cmp_ne hc
      constructor
      · rintro (rfl | rfl | ⟨h3, h4⟩)
        · exact .inr ⟨.inl rfl, hy⟩
        · exact .inl rfl
        · exact .inr ⟨.inr h3, h4⟩
      · rintro (rfl | ⟨rfl | h3, h4⟩)
        · exact .inr (.inl rfl)
        · exact .inl rfl
        · exact .inr (.inr ⟨h3, h4⟩)
    · have hp : pos k (y :: l) = 0 := by simp [pos, hc]
      have hh : has k (y :: l) = decide (y.1 = k) := by unfold has; rw [hp]; rfl
      unfold ins
      rw [hp, hh]
      by_cases he : y.1 = k
      · simp only [he, decide_true, if_true, List.take_zero, List.nil_append, Nat.zero_add, List.drop_succ_cons, List.drop_zero, List.mem_cons]
        constructor
        · rintro (h3 | h3)
          · exact .inl h3
          · exact .inr ⟨.inr h3, fun e => by have := h1 x h3; rw [he, e, ord_B.refl] at this; exact absurd this (by decide)⟩
        · rintro (h3 | ⟨rfl | h3, h4⟩)
          · exact .inl h3
          · exact (h4 he).elim
          · exact .inr h3
      · simp only [he, decide_false, Bool.false_eq_true, if_false, List.take_zero, List.nil_append, List.drop_zero, List.mem_cons]
        have hk : cmpB k y.1 = -1 := by
          rcases cmp_three y.1 k with e | e | e
          · exact (hc e).elim
          · exact (he e).elim
          · exact e
        constructor
        · rintro (h3 | h3)
          · exact .inl h3
          · refine .inr ⟨h3, fun e => ?_⟩
            rcases h3 with rfl | h3
            · exact he e
            · have := ord_B.trans _ _ _ hk (h1 x h3)
              rw [e, ord_B.refl] at this
              exact absurd this (by decide)
        · rintro (h3 | ⟨h3, -⟩)
          · exact .inl h3
          · exact .inr h3
theorem ins_len (k v : ByteArray) (l : List (ByteArray × ByteArray)) : (ins k v l).length ≤ l.length + 1 := by
  unfold ins
  simp only [List.length_append, List.length_take, List.length_cons, List.length_drop]
  have := pos_le k l
  split <;> omega
theorem sub_mem : ∀ {t : T} {k v : ByteArray}, (k, v) ∈ t.list → ∃ p l r, Sub (.node p k v l r) t
  | .nil, k, v, h => by simp [T.list] at h
  | .node p k' v' l r, k, v, h => by
    simp only [T.list, List.mem_append, List.mem_cons] at h
    rcases h with h | h | h
    · obtain ⟨p1, l1, r1, hs⟩ := sub_mem h
      exact ⟨p1, l1, r1, .left hs⟩
    · cases h
      exact ⟨p, l, r, .here⟩
    · obtain ⟨p1, l1, r1, hs⟩ := sub_mem h
      exact ⟨p1, l1, r1, .right hs⟩
theorem find_val {t : T} (hs : Srt t.list) {k v : ByteArray} (h : (k, v) ∈ t.list) : (t.find k).val = v := by
  obtain ⟨p, l, r, hh⟩ := sub_mem h
  rw [T.find_sub hh hs]; rfl
end Go.Proofs.YtkkpdgfllnbigaaGreat.Pm
namespace Go.Proofs.YtkkpdgfllnbigaaGreat
open Go.RowKit Go.Shelf
/-- The map has just these keys. -/
def KeysOf (t : Pm.T) (l : List Kv) : Prop := ∀ k, (∃ v, (k, v) ∈ t.list) ↔ k ∈ l.map Prod.fst
theorem KeysOf.may {t : Pm.T} {l : List Kv} (h : KeysOf t l) (hs : Pm.Srt t.list) : mayL (l.map fun x => (x.1, (t.find x.1).val)) = mayL t.list := by
  unfold mayL
  rw [Bool.eq_iff_iff, List.all_eq_true, List.all_eq_true]
  constructor
  · rintro hh ⟨k, v⟩ hx
    have hk := (h k).1 ⟨v, hx⟩
    obtain ⟨y, hy, rfl⟩ := List.mem_map.1 hk
    have := hh (y.1, (t.find y.1).val) (List.mem_map.2 ⟨y, hy, rfl⟩)
    rwa [Pm.find_val hs hx] at this
  · rintro hh x hx
    obtain ⟨y, hy, rfl⟩ := List.mem_map.1 hx
    obtain ⟨v, hv⟩ := (h y.1).2 (List.mem_map.2 ⟨y, hy, rfl⟩)
    rw [Pm.find_val hs hv]
    exact hh _ hv
/-- One Put more. -/
theorem Mg.put {w w' : World} {t t' : Pm.T} {k v : ByteArray} (h : Mg w t) (hp : Pm.Puts w.heap.size k v t t') (hi : Pm.In w' t') (hn : t.n < 400) (hk : k.size ≤ 9223372036854775807) : Mg w' t' := by
  have hl := hp.list h.srt
  refine ⟨hi, ?_, (hp.says h.srt h.bal h.inn.underP).bal, ?_, ?_⟩
  · rw [hl]; exact Pm.srt_insP h.srt k v
  · rw [← Pm.T.n_eq, hl]
    have := Pm.ins_len k v t.list
    rw [Pm.T.n_eq] at this
    omega
  · intro x hx
    rw [hl, Pm.mem_ins h.srt] at hx
    rcases hx with rfl | ⟨hx, -⟩
    · exact hk
    · exact h.key x hx
theorem KeysOf.put {w : World} {t t' : Pm.T} {l : List Kv} {k v : ByteArray} {B : Nat} (h : KeysOf t l) (hm : Mg w t) (hp : Pm.Puts B k v t t') : KeysOf t' (l ++ [(k, v)]) := fun j => by
  rw [hp.list hm.srt, List.map_append, List.mem_append, List.map_singleton, List.mem_singleton, ← h j]
  constructor
  · rintro ⟨u, hu⟩
    rw [Pm.mem_ins hm.srt] at hu
    rcases hu with hu | ⟨hu, -⟩
    · cases hu; exact .inr rfl
    · exact .inl ⟨u, hu⟩
  · rintro (⟨u, hu⟩ | rfl)
    · by_cases e : j = k
      · exact ⟨v, (Pm.mem_ins hm.srt _ _ _).2 (.inl (by rw [e]))⟩
      · exact ⟨u, (Pm.mem_ins hm.srt _ _ _).2 (.inr ⟨hu, e⟩)⟩
    · exact ⟨v, (Pm.mem_ins hm.srt _ _ _).2 (.inl rfl)⟩
end Go.Proofs.YtkkpdgfllnbigaaGreat
namespace Go.Proofs.YtkkpdgfllnbigaaGreat
open Go.RowKit Go.Shelf
set_option linter.unusedSimpArgs false
attribute [local go_sem] Oper.semAt_some

/-- A slice of pairs of strings. -/
def Rp (w : World) (ao : Option Addr) (l : List Kv) : Prop := ∀ k x, l[k]? = some x → ∃ b off, ao = some ⟨b, off, none⟩ ∧ w.cell? ⟨b, off + k * 2, none⟩ = some (.string x.1) ∧ w.cell? ⟨b, off + k * 2 + 1, none⟩ = some (.string x.2)
theorem Rp.below {w w' : World} {ao : Option Addr} {l : List Kv} (h : Rp w ao l) (hb : Below w.heap.size w w') : Rp w' ao l := fun k x hx => by
  obtain ⟨b, off, e, h1, h2⟩ := h k x hx
  exact ⟨b, off, e, cell_stays h1 hb, cell_stays h2 hb⟩
theorem Ot.form {w : World} {B : Nat} {v : Value} {L : List ByteArray} (h : Ot w B v L) : ∃ ao c, v = .slice ao L.length c := by
  rcases h with ⟨h1, h2⟩
  rcases h2 with ⟨e, e2⟩ | ⟨g, cap, cur, e, -⟩
  · exact ⟨none, 0, by rw [e, e2]⟩
  · exact ⟨_, _, e⟩
end Go.Proofs.YtkkpdgfllnbigaaGreat
namespace Go.Proofs.YtkkpdgfllnbigaaGreat
open Go.RowKit Go.Shelf
set_option linter.unusedSimpArgs false
attribute [local go_sem] Oper.semAt_some

end Go.Proofs.YtkkpdgfllnbigaaGreat
namespace Go.Proofs.YtkkpdgfllnbigaaGreat
open Go.RowKit Go.Shelf
set_option linter.unusedSimpArgs false
attribute [local go_sem] Oper.semAt_some

def mayE (l : List El) : Bool := l.all okEl && decide ((l.map Prod.fst).Nodup)
theorem mayE_bad {l : List El} {i : Nat} {x : El} (hx : l[i]? = some x) (h : okEl x = false) : mayE l = false := by
  unfold mayE
  rw [Bool.and_eq_false_iff]
  left
  rw [List.all_eq_false]
  exact ⟨x, List.mem_of_getElem? hx, by simp [h]⟩
theorem mayE_twice {l : List El} {i k : Nat} {x y : El} (hx : l[i]? = some x) (hy : l[k]? = some y) (hk : k < i) (h : y.1 = x.1) : mayE l = false := by
  unfold mayE
  rw [Bool.and_eq_false_iff]
  right
  rw [decide_eq_false_iff_not]
  intro hn
  have h1 : (l.map Prod.fst)[i]? = some x.1 := by rw [List.getElem?_map, hx]; rfl
  have h2 : (l.map Prod.fst)[k]? = some x.1 := by rw [List.getElem?_map, hy, ← h]; rfl
  have hi := (List.getElem?_eq_some_iff.1 h1).1
  have hkl := (List.getElem?_eq_some_iff.1 h2).1
  have e1 := (List.getElem?_eq_some_iff.1 h1).2
  have e2 := (List.getElem?_eq_some_iff.1 h2).2
  exact List.pairwise_iff_getElem.1 hn k i hkl hi hk (e2.trans e1.symm)
theorem nodup_more {l : List El} {i : Nat} {x : El} (hx : l[i]? = some x) (h : ((l.take i).map Prod.fst).Nodup) (hn : ∀ j y, j < i → l[j]? = some y → y.1 ≠ x.1) : ((l.take (i + 1)).map Prod.fst).Nodup := by
  rw [List.take_add_one, hx, List.map_append, List.nodup_append]
  refine ⟨h, by simp, ?_⟩
  intro a ha b hb
  simp only [Option.toList, List.map_cons, List.map_nil, List.mem_singleton] at hb
  subst hb
  obtain ⟨y, hy, rfl⟩ := List.mem_map.1 ha
  obtain ⟨j, hj⟩ := List.mem_iff_getElem?.1 hy
  rw [List.getElem?_take] at hj
  split at hj
  · exact hn j y (by assumption) hj
  · cases hj
set_option maxHeartbeats 4000000 in
set_option maxRecDepth 100000 in
theorem refMay11 {w : World} {ao : Option Addr} {c : Nat} (l : List El) (h : Re w ao l) (hl : l.length ≤ 100000) (hs : ∀ x ∈ l, x.1.2.2.1.size ≤ 9223372036854775807) : Calls Tryz.prog 19 #[.slice ao l.length c] w fun e w' => e = .returned (.bool (mayE l)) ∧ Below w.heap.size w w' := by
  obtain ⟨N, hN⟩ : ∃ N, N = l.length := ⟨_, rfl⟩
  obtain ⟨R, hR⟩ : ∃ R, R = mayE l := ⟨_, rfl⟩
  rw [← hR]
  rw [← hN] at hl ⊢
  have H := hide (And.intro hN (And.intro h hs))
  have HR := hide hR
  clear hN hR h hs
  go_enter Tryz.func19, Tryz.ntmps19
  go_wp2
  go_loopw [3] (fun iv wr => ∃ i : Nat, i ≤ N ∧ iv = .int .i64 i ∧ Hid ((l.take i).all okEl = true ∧ ((l.take i).map Prod.fst).Nodup) ∧ Hid (Below w.heap.size w wr)) (fun iv _ => N - (intOf iv).toNat)
  case atStart => exact ⟨0, by omega, rfl, hide ⟨by simp, by simp⟩, hide (Below.refl _ _)⟩
  case round =>
    obtain ⟨i, hi, rfl, HD, HB⟩ := hrel
    by_cases h1 : i < N
    · have z1 : (i : Int) < (N : Int) := by omega
      have d1 : decide (i < N) = true := by simpa using h1
      obtain ⟨x, hx⟩ : ∃ x, l[i]? = some x := ⟨_, List.getElem?_eq_getElem (by rw [← H.out.1]; exact h1)⟩
      obtain ⟨b, off, hao, c0, c1, c2, c3, c4, c5⟩ := (H.out.2.1.below HB.out).cells hx
      have hsz := H.out.2.2 x (List.mem_of_getElem? hx)
      obtain ⟨⟨g, r, lb, n, ix⟩, y⟩ := x
      dsimp only at c0 c1 c2 c3 c4 c5 hsz
      have HX := hide hx
      have HAO := hide hao
      subst hao
      have hst := fun W => refStamp_any g r lb n ix W hsz
      have htx := fun W => refText_any y W
      have hV : stampV g r lb n ix = stV (g, r, lb, n, ix) := rfl
      rw [hV] at hst
      obtain ⟨V, hVV⟩ : ∃ q, q = stV (g, r, lb, n, ix) := ⟨_, rfl⟩
      obtain ⟨TX, hTX⟩ : ∃ q, q = txtB y := ⟨_, rfl⟩
      rw [← hVV] at hst
      rw [← hTX] at htx
      have HV := hide (And.intro hVV hTX)
      dsimp only [sv] at hst
      clear hx hV hVV hTX hsz
      cases TX with
      | false =>
        have hd : R = false := by rw [HR.out]; exact mayE_bad HX.out (by simp [okEl, ← HV.out.2])
        have HDD := hide hd
        clear hd hst
        go_wp2_with (go_at_call 111; refine (htx _).mono ?_; rintro e w2 ⟨rfl, rfl⟩; dsimp only)
        go_ret
        exact ⟨by first | (rw [HDD.out]; rfl) | rw [HDD.out], HB.out⟩
      | true =>
        cases V with
        | false =>
          have hd : R = false := by rw [HR.out]; exact mayE_bad HX.out (by simp [okEl, ← HV.out.1])
          have HDD := hide hd
          clear hd
          go_wp2_with (first
            | (go_at_call 111; refine (htx _).mono ?_; rintro e w2 ⟨rfl, rfl⟩; dsimp only)
            | (go_at_call 112; refine (hst _).mono ?_; rintro e w3 ⟨rfl, b3⟩; have HB3 := hide (HB.out.trans (b3.mono HB.out.size)); clear b3; dsimp only))
          go_ret
          exact ⟨by first | (rw [HDD.out]; rfl) | rw [HDD.out], HB3.out⟩
        | true =>
          go_wp2_with (first
            | (go_at_call 111; refine (htx _).mono ?_; rintro e w2 ⟨rfl, rfl⟩; dsimp only)
            | (go_at_call 112; refine (hst _).mono ?_; rintro e w3 ⟨rfl, b3⟩; have HB3 := hide (HB.out.trans (b3.mono HB.out.size)); clear b3; dsimp only))
          clear c0 c1 c2 c3 c4 c5 hst htx
          go_loopw [4] (fun kv wq => ∃ k : Nat, k ≤ i ∧ kv = .int .i64 k ∧ Hid (∀ j y, j < k → l[j]? = some y → y.1 ≠ (g, r, lb, n, ix)) ∧ Hid (Below w.heap.size w wq)) (fun kv _ => i - (intOf kv).toNat)
          case atStart => exact ⟨0, by omega, rfl, hide (fun j y h => by omega), HB3⟩
          case round =>
            obtain ⟨k, hk, rfl, HK, HBK⟩ := hrel
            by_cases h2 : k < i
            · have z2 : (k : Int) < (i : Int) := by omega
              have d2 : decide (k < i) = true := by simpa using h2
              have z3 : (k : Int) < (N : Int) := by omega
              have d3 : decide (k < N) = true := by simp; omega
              obtain ⟨x2, hx2⟩ : ∃ x, l[k]? = some x := ⟨_, List.getElem?_eq_getElem (by rw [← H.out.1]; omega)⟩
              obtain ⟨b', off', e', a0, a1, a2, a3, a4, -⟩ := (H.out.2.1.below HBK.out).cells hx2
              injection e' with e'
              injection e' with e1 e2
              subst e1 e2
              obtain ⟨b', off', e', c0, c1, c2, c3, c4, -⟩ := (H.out.2.1.below HBK.out).cells HX.out
              injection e' with e'
              injection e' with e1 e2
              subst e1 e2
              obtain ⟨⟨g2, r2, l2, n2, i2⟩, y2⟩ := x2
              dsimp only at a0 a1 a2 a3 a4 c0 c1 c2 c3 c4
              have heq := fun W => run_eq52' (g2, r2, l2, n2, i2) (g, r, lb, n, ix) W
              dsimp only [svT, sv] at heq
              have HX2 := hide hx2
              clear hx2
              by_cases hse : ((g2, r2, l2, n2, i2) : St) = (g, r, lb, n, ix)
              · have hd : R = false := by rw [HR.out]; exact mayE_twice HX.out HX2.out h2 hse
                rw [decide_eq_true hse] at heq
                have HDD := hide hd
                clear hd hse
                go_wp2
                go_quiet (fail)
                go_wp2
                go_ret
                exact ⟨by first | (rw [HDD.out]; rfl) | rw [HDD.out], HBK.out.trans ((below_drew _ _).mono HBK.out.size)⟩
              · rw [decide_eq_false hse] at heq
                have HSE := hide hse
                clear hse
                go_wp2
                go_quiet (fail)
                go_wp2
                go_roundw
                case rel =>
                  refine ⟨k + 1, by omega, by go_num, hide (fun j y hj hy => ?_), hide (HBK.out.trans ((below_drew _ _).mono HBK.out.size))⟩
                  by_cases hjk : j = k
                  · subst hjk
                    rw [HX2.out] at hy
                    cases hy
                    exact HSE.out
                  · exact HK.out j y (by omega) hy
                case measure => simp [intOf]; omega
            · obtain rfl : k = i := by omega
              have d2 : decide (k < k) = false := by simp
              have z2 : ¬ (k : Int) < (k : Int) := by omega
              go_wp2
              go_roundw
              case rel =>
                refine ⟨k + 1, by omega, by go_num, hide ⟨?_, nodup_more HX.out HD.out.2 HK.out⟩, HBK⟩
                rw [List.take_add_one, HX.out]
                simp [HD.out.1, okEl, ← HV.out.1, ← HV.out.2]
              case measure => simp [intOf]; omega
    · obtain rfl : i = N := by omega
      have d1 : decide (i < i) = false := by simp
      have z1 : ¬ (i : Int) < (i : Int) := by omega
      have hd : R = true := by
        rw [HR.out]
        have := HD.out
        rw [H.out.1, List.take_length] at this
        simp [mayE, this.1, this.2]
      have HDD := hide hd
      clear hd
      go_wp2
      go_ret
      exact ⟨by first | (rw [HDD.out]; rfl) | rw [HDD.out], HB.out⟩
end Go.Proofs.YtkkpdgfllnbigaaGreat
namespace Go.Proofs.YtkkpdgfllnbigaaGreat
open Go.RowKit Go.Shelf

theorem keyT_inj {s t : St} (hs : stV s = true) (ht : stV t = true) (h : keyT s = keyT t) : s = t := by
  obtain ⟨g, r, l, n, x⟩ := s
  obtain ⟨g', r', l', n', x'⟩ := t
  have ho := key_order hs ht
  have he : keyS g r l n x = keyS g' r' l' n' x' := h
  rw [cmpS_eq] at ho
  have h1 : cmpB (keyS g r l n x) (keyS g' r' l' n' x') = cmpT (g, r, l, n, x) (g', r', l', n', x') := ho
  rw [he, ord_B.refl] at h1
  exact ord_T.eq _ _ h1.symm
theorem mayE_good (l : List El) : mayE l = goodL l := by
  unfold mayE goodL
  cases ha : l.all okEl with
  | false => rfl
  | true =>
    rw [Bool.true_and, Bool.true_and, decide_eq_decide]
    have hv : ∀ x ∈ l, stV x.1 = true := fun x hx => by
      have := List.all_eq_true.1 ha x hx
      simp only [okEl, Bool.and_eq_true] at this
      exact this.1
    constructor
    · intro hn
      rw [List.Nodup, List.pairwise_map] at hn ⊢
      exact hn.imp_of_mem (fun {a b} h1 h2 hne e => hne (keyT_inj (hv a h1) (hv b h2) e))
    · intro hn
      rw [List.Nodup, List.pairwise_map] at hn ⊢
      exact hn.imp (fun {a b} hne e => hne (by rw [e]))
end Go.Proofs.YtkkpdgfllnbigaaGreat
