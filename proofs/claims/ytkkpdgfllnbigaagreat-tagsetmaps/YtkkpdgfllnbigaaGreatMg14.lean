/-
  The document's SameElements 65, Same 24, SameTexts 31; the laws' at 38.
  register: the law's small functions: at (46), num (35), the document's Text (55).
  register: the chapter's rows (known 32).
  REFKEY: the document's own key of a stamp.
-/
import Derived.Test.YtkkpdgfllnbigaaGreatMg11
import Derived.Test.YtkkpdgfllnbigaaGreatMg10
import Derived.Test.YtkkpdgfllnbigaaGreatReg7
import Derived.Deep.DeepCutAuto
import Derived.Deep.CutBlock
import Derived.Test.YtkkpdgfllnbigaaGreatMg8
namespace Go.Proofs.YtkkpdgfllnbigaaGreat
open Go.RowKit Go.Shelf
set_option linter.unusedSimpArgs false
attribute [local go_sem] Oper.semAt_some

set_option maxHeartbeats 4000000 in
set_option maxRecDepth 100000 in
theorem sameTexts_any {w : World} {ao bo : Option Addr} {c d : Nat} {l m : List ByteArray} (h : Rs w ao l) (k : Rs w bo m) (hl : l.length ≤ 1000000) (hm : m.length ≤ 1000000) : Calls Tryz.prog 108 #[.slice ao l.length c, .slice bo m.length d] w fun e w' => e = .returned (.bool (decide (l = m))) ∧ ∃ n, w' = w.drewN n := by
  obtain ⟨N, hN⟩ : ∃ N, N = l.length := ⟨_, rfl⟩
  obtain ⟨M, hM⟩ : ∃ N, N = m.length := ⟨_, rfl⟩
  obtain ⟨R, hR⟩ : ∃ R, R = decide (l = m) := ⟨_, rfl⟩
  rw [← hR]
  rw [← hN] at hl ⊢
  rw [← hM] at hm ⊢
  have H := hide (And.intro hN (And.intro hM (And.intro h k)))
  have HR := hide hR
  clear hN hM hR h k
  by_cases hNM : N = M
  · subst hNM
    go_enter Tryz.func108, Tryz.ntmps108
    go_wp2
    go_loopw [5] (fun iv wr => ∃ i : Nat, i ≤ N ∧ iv = .int .i64 i ∧ Hid (l.take i = m.take i) ∧ ∃ n, wr = w.drewN n) (fun iv _ => N - (intOf iv).toNat)
    case atStart => exact ⟨0, by omega, rfl, hide (by simp), 0, rfl⟩
    case round =>
      obtain ⟨i, hi, rfl, hrest, n, hwr⟩ := hrel
      have hlr : Rs wr ao l := by rw [hwr]; exact ⟨H.out.2.2.1.1, H.out.2.2.1.2⟩
      have hmr : Rs wr bo m := by rw [hwr]; exact ⟨H.out.2.2.2.1, H.out.2.2.2.2⟩
      have HWR := hide hwr
      clear hwr
      by_cases h1 : i < N
      · have z1 : (i : Int) < (N : Int) := by omega
        have d1 : decide (i < N) = true := by simpa using h1
        obtain ⟨x, hx⟩ : ∃ x, l[i]? = some x := ⟨_, List.getElem?_eq_getElem (by rw [← H.out.1]; exact h1)⟩
        obtain ⟨y, hy⟩ : ∃ y, m[i]? = some y := ⟨_, List.getElem?_eq_getElem (by rw [← H.out.2.1]; exact h1)⟩
        obtain ⟨ab, off, rfl, q0⟩ := hlr.at hx
        obtain ⟨bb, ob, rfl, p0⟩ := hmr.at hy
        have HX := hide (And.intro hx hy)
        clear hx hy hlr hmr
        by_cases hxy : x = y
        · have HXY := hide hxy
          have d2 : (x.toList == y.toList) = true := bytes_same.2 hxy
          clear hxy
          go_wp2
          go_quiet (fail)
          go_wp2
          go_roundw
          case rel => exact ⟨i + 1, by omega, by go_num, hide (by rw [List.take_add_one, List.take_add_one, HX.out.1, HX.out.2, hrest.out, HXY.out]), _, by rw [HWR.out, World.drewN_drewN]⟩
          case measure => simp [intOf]; omega
        · have hd : R = false := by
            rw [HR.out]
            simp only [decide_eq_false_iff_not]
            intro e
            have := HX.out.1.symm.trans ((congrArg (·[i]?) e).trans HX.out.2)
            exact hxy (by simpa using this)
          have d2 : (x.toList == y.toList) = false := by rw [Bool.eq_false_iff, Ne, bytes_same]; exact hxy
          have HD := hide hd
          clear hd hxy
          go_wp2
          go_quiet (fail)
          go_wp2
          go_ret
          exact ⟨by rw [HD.out]; rfl, _, by rw [HWR.out, World.drewN_drewN]⟩
      · obtain rfl : i = N := by omega
        have d1 : decide (i < i) = false := by simp
        go_wp2
        go_ret
        have : l = m := by
          have := hrest.out
          rwa [show l.take i = l by rw [H.out.1]; exact List.take_length, show m.take i = m by rw [H.out.2.1]; exact List.take_length] at this
        exact ⟨by rw [HR.out, decide_eq_true this]; rfl, n, HWR.out⟩
  · have e1 : ((N : Int) == (M : Int)) = false := by rw [beq_eq_false_iff_ne]; omega
    have hd : R = false := by
      rw [HR.out]
      simp only [decide_eq_false_iff_not]
      intro e
      exact hNM (by rw [H.out.1, H.out.2.1, e])
    subst hd
    go_enter Tryz.func108, Tryz.ntmps108
    go_wp2
    go_ret
    exact ⟨rfl, 0, rfl⟩


/-- The laws' stamps. -/
def atS (g : Int) : St := (g, 0, ⟨#[97]⟩, 1, 0)
end Go.Proofs.YtkkpdgfllnbigaaGreat
namespace Go.Proofs.YtkkpdgfllnbigaaGreat
open Go.RowKit Go.Shelf
set_option linter.unusedSimpArgs false
attribute [local go_sem] Oper.semAt_some

theorem refText_any (s : ByteArray) (w : World) : Calls Tryz.prog 111 #[.string s] w fun e w' => e = .returned (.bool (txtB s)) ∧ w' = w := by
  unfold txtB
  by_cases h : s.size ≤ 256
  · have h1 : (s.size : Int) ≤ 256 := by omega
    have h2 : decide ((s.size : Int) ≤ 256) = true := by simpa using h1
    have h3 : decide (s.size ≤ 256) = true := by simpa using h
    rw [h3]
    go_enter Tryz.func111, Tryz.ntmps111
    go_wp2
    go_ret
    exact ⟨rfl, rfl⟩
  · have h1 : ¬ (s.size : Int) ≤ 256 := by omega
    have h2 : decide ((s.size : Int) ≤ 256) = false := by simpa using h1
    have h3 : decide (s.size ≤ 256) = false := by simpa using h
    rw [h3]
    go_enter Tryz.func111, Tryz.ntmps111
    go_wp2
    go_ret
    exact ⟨rfl, rfl⟩
theorem perm_two {α : Type} {l : List α} {a b : α} (h : l.Perm [a, b]) : l = [a, b] ∨ l = [b, a] := by
  have hl := h.length_eq
  match l, hl with
  | [x, y], _ =>
    have hx : x ∈ [a, b] := h.mem_iff.1 (by simp)
    simp only [List.mem_cons, List.not_mem_nil, or_false] at hx
    rcases hx with rfl | rfl
    · have := (List.perm_cons x).1 h
      rw [List.perm_singleton] at this
      left; rw [this]
    · have h2 := h.trans (List.Perm.swap x a [])
      have := (List.perm_cons x).1 h2
      rw [List.perm_singleton] at this
      right; rw [this]
end Go.Proofs.YtkkpdgfllnbigaaGreat
namespace Go.Proofs.YtkkpdgfllnbigaaGreat
open Go.RowKit Go.Shelf
set_option linter.unusedSimpArgs false
attribute [local go_sem] Oper.semAt_some

theorem exec_st27 {ev' : Operand → Value} {x y : Operand} {T : TypeId} {w : World} {B : Nat} {u : Value} {pt : Option Addr} (hx : ev' x = .pointer (some ⟨B, 0, none⟩)) (hy : ev' y = .agg #[.pointer pt]) (h : w.cell? ⟨B, 0, none⟩ = some u) (hf : w.frozen? ⟨B, 0, none⟩ = false) : (execOp ev' { dst := none, op := .store 27 x y, type := T, pos := "", after := #[], guard := none }).run Tryz.prog w = .ok .skip (w.setCell ⟨B, 0, none⟩ (.pointer pt)) := by
  unfold execOp
  simp only [hx, hy]
  go_simp
theorem exec_al27 {ev' : Operand → Value} {T : TypeId} (w : World) : (execOp ev' { dst := none, op := .alloc 27, type := T, pos := "", after := #[], guard := none }).run Tryz.prog w = .ok (.value (.pointer (some ⟨w.heap.size, 0, none⟩))) (w.alloc (.cells #[.pointer none] 27)) := by
  unfold execOp
  go_simp
/-- A map in a box. -/
def Boxd (w : World) (B : Nat) (pt : Option Addr) (t : Pm.T) : Prop := w.heap[B]? = some (.cells #[.pointer pt] 27 (0, 0)) ∧ t.ptr = .pointer pt ∧ Mg w t
theorem Boxd.below {w w' : World} {B : Nat} {pt : Option Addr} {t : Pm.T} (h : Boxd w B pt t) (hb : Below w.heap.size w w') : Boxd w' B pt t := ⟨(hb.block _ (gI h.1).1).trans h.1, h.2.1, h.2.2.below hb⟩
theorem Boxd.cell {w : World} {B : Nat} {pt : Option Addr} {t : Pm.T} (h : Boxd w B pt t) : w.cell? ⟨B, 0, none⟩ = some (.pointer pt) := (cell_of_row _ _ 0 _ 27 (0, 0) h.1).trans rfl
theorem Mg.aside {w w' : World} {B : Nat} {x : Value} {t : Pm.T} (h : Mg w t) (hw : w.heap[B]? = some (.cells #[x] 27 (0, 0))) (ho : Only (fun j => j = B) w w') : Mg w' t := ⟨Pm.In.aside hw ho h.inn, h.srt, h.bal, h.few, h.key⟩
theorem Ot.rs {w : World} {B n c : Nat} {ao : Option Addr} {L : List ByteArray} (h : Ot w B (.slice ao n c) L) : Rs w ao L := by
  rcases h with ⟨h1, h2⟩
  rcases h2 with ⟨e, e2⟩ | ⟨g, cap, cur, e, hb, hg, hnc, hcm, hcs, htake⟩
  · have : L = [] := List.eq_nil_of_length_eq_zero e2
    subst this
    exact Rs.nil _ _
  · injection e with e1 e2 e3
    subst e1
    refine ⟨fun h => (by cases h), fun a ha j s hj => ?_⟩
    cases ha
    rw [add_lit, cell_of_row _ _ (0 + j) _ 9 (0, 0) hg, Nat.zero_add]
    have hj' : (L.map Value.string)[j]? = some (.string s) := by rw [List.getElem?_map, hj]; rfl
    rw [← htake, List.getElem?_take] at hj'
    split at hj'
    · simpa using hj'
    · cases hj'
theorem two_re {W : World} {b : Nat} {x y : El} (h : W.heap[b]? = some (.cells (flatE [x, y]).toArray 53 (0, 0))) : Re W (some ⟨b, 0, none⟩) [x, y] := Re.ofRe0 (fun j v hj => by
  rw [cell_of_row _ _ (0 + j) (flatE [x, y]).toArray 53 (0, 0) h, Nat.zero_add]
  simpa using hj)
end Go.Proofs.YtkkpdgfllnbigaaGreat
namespace Go.Proofs.YtkkpdgfllnbigaaGreat
open Go.RowKit Go.Shelf
set_option linter.unusedSimpArgs false

theorem app_own {w : World} {B : Nat} {v : Value} {p l : List Int} {ao : Option Addr} {c : Nat} (hown : Own 5 w B v p) (hc : ao = none → c = 0) (hrd : Rd w ao l) (hbytes : p.length + l.length ≤ 140737488355328) (hB : B ≤ w.heap.size) :
    ∃ a' c' w', (Builtin.append_ #[121, 121] 121 #[v, .slice ao l.length c]).run Tryz.prog w = .ok (.slice a' (p ++ l).length c') w' ∧ Own 5 w' B (.slice a' (p ++ l).length c') (p ++ l) ∧ (a' = none → c' = 0) ∧ Below B w w' := by
  obtain ⟨i0, hi, hz0, hz1, hz2⟩ := info_parts Tryz.info5
  cases ao with
  | none =>
    have hl := hrd.1 rfl
    subst hl
    have hc0 := hc rfl
    subst hc0
    obtain ⟨a', c', rfl, hn⟩ := hown.form
    rw [List.append_nil]
    exact ⟨a', c', w, run_append_owned_none (P := Tryz.prog) (w := w) B 121 121 5 i0 1 Tryz.underlying121 hi _ _ _ hown, hown, hn, Below.refl _ _⟩
  | some ad =>
    obtain ⟨v', w', hr, h2, h3, _⟩ := run_append_own (P := Tryz.prog) w B 121 121 5 i0 (.int .u8 0) 1 1 Tryz.underlying121 hi hz0 hz1 hz2 rfl (by decide) v p.length (u8s p) hown ad l.length c (u8s l) (by simp [u8s]) (fun j u hj => hrd.2 ad rfl j u hj) u8s_one (by unfold maxLen; omega) (by omega) hB
    have hO : Own 5 w' B v' (p ++ l) := by unfold Own; rw [u8s_append, List.length_append]; exact h2
    obtain ⟨a', c', rfl, hn⟩ := hO.form
    exact ⟨a', c', w', hr, hO, hn, (Below.refl B w).grown h3 hB (fun k hk => (World.ownsRow.lt hown k hk).1)⟩

theorem app_str {W : World} {B : Nat} {v : Value} {p : List Int} (s : ByteArray) (h : Own 5 W B v p) (hlen : p.length + s.size ≤ 140737488355328) (hB : B ≤ W.heap.size) :
    ∃ a' c' w', (Builtin.append_ #[121, 9] 121 #[v, .string s]).run Tryz.prog W = .ok (.slice a' (p ++ ints s.data.toList).length c') w' ∧ Own 5 w' B (.slice a' (p ++ ints s.data.toList).length c') (p ++ ints s.data.toList) ∧ (a' = none → c' = 0) ∧ Below B W w' := by
  obtain ⟨i0, hi, hz0, hz1, hz2⟩ := info_parts Tryz.info5
  obtain ⟨v', w', hr, h2, h3, h4⟩ := Lib.run_append_own_string (P := Tryz.prog) W B 121 9 121 5 i0 Tryz.underlying121 Tryz.underlying9 hi hz0 hz1 hz2 v p.length (u8s p) h s (by unfold maxLen; omega) hlen hB
  have e1 : u8s (p ++ ints s.data.toList) = u8s p ++ Lib.strCells s := by simp [u8s, ints, Lib.strCells]
  have e2 : (p ++ ints s.data.toList).length = p.length + s.size := by rw [List.length_append, ints_size]
  have hO : Own 5 w' B v' (p ++ ints s.data.toList) := by unfold Own; rw [e1, e2]; exact h2
  obtain ⟨a', c', rfl, hn⟩ := hO.form
  exact ⟨a', c', w', hr, hO, hn, (Below.refl B W).grown h3 hB (fun k hk => (World.ownsRow.lt h k hk).1)⟩
theorem wpList_app2 {P : Program} {w w' : World} {ops : Array Oper} {rest : List Oper} {o : Oper} {a : Act} {Q : Exit → Act → World → Prop} (hgd : o.guard = none) (s x : Operand) (t u T : TypeId)
    (ho : o.op = .call { callee := .builtin .append, args := #[s, x], argTypes := #[t, u] }) (hT : o.type = T) {v y v' : Value} (hs : a.eval s = v) (hx : a.eval x = y) (hr : (Builtin.append_ #[t, u] T #[v, y]).run P w = .ok v' w')
    (h : wpList P ops Q rest (a.put o.dst v') w') : wpList P ops Q (o :: rest) a w :=
  wpList_plain hgd fun K hK => by
    unfold Oper.wp
    rw [exec_same a.eval o ho hT]
    simp only [execOp, resolve, invoke, builtin, Sem.run_bind, Sem.run_pure, Result.andThen_ok, List.map_toArray, List.map_cons, List.map_nil, hs, hx, hr]
    exact hK _ _ h
theorem rd_one (W : World) (b : Int) : Rd (W.alloc (.cells #[.int .u8 b] 5)) (some ⟨W.heap.size, 0, none⟩) [b] := by
  refine ⟨by simp, ?_⟩
  intro a' ha' j u hj
  cases ha'
  match j, hj with
  | 0, hj => simp [u8s] at hj; subst hj; simp [Addr.add]
theorem str_app (a b : List Int) : strOfNums (a ++ b) = strOfNums a ++ strOfNums b := by
  apply ByteArray.ext
  apply Array.toList_inj.1
  simp [strOfNums]
set_option maxHeartbeats 4000000 in
set_option maxRecDepth 100000 in
theorem refKey_any (g r : Int) (l : ByteArray) (n x : Int) (w : World) (h0 : 0 ≤ r) (h1 : r ≤ 255) (hl : l.size ≤ 1000000) (n0 : 0 ≤ n) (_n1 : n ≤ 9223372036854775807) (g0 : 0 ≤ g) (_g1 : g ≤ 9223372036854775807) (x0 : 0 ≤ x) (x1 : x ≤ 255) : Calls Tryz.prog 176 #[sv g r l n x] w fun e w' => e = .returned (.string (keyS g r l n x)) ∧ Below w.heap.size w w' := by
  have hb := below_new w (.cells #[.int .i64 g, .int .i64 r, .string l, .int .i64 n, .int .i64 x] 43)
  have hbk := heap_alloc_new w (.cells #[.int .i64 g, .int .i64 r, .string l, .int .i64 n, .int .i64 x] 43)
  obtain ⟨p0, p1, p2, p3, p4⟩ := five_new w (.int .i64 g) (.int .i64 r) (.string l) (.int .i64 n) (.int .i64 x) 43
  have wr : IntKind.u8.wrap r = r := by rw [IntKind.wrap_u8]; omega
  have wx : IntKind.u8.wrap x = x := by rw [IntKind.wrap_u8]; omega
  have hg : ∀ W, Calls Tryz.prog 210 #[.int .i64 g] W fun e w' => Made 5 W w' e (low g.toNat 8) := fun W => by have := eight_any g.toNat W; rw [Int.toNat_of_nonneg g0] at this; exact this
  have hn : ∀ W, Calls Tryz.prog 210 #[.int .i64 n] W fun e w' => Made 5 W w' e (low n.toNat 8) := fun W => by have := eight_any n.toNat W; rw [Int.toNat_of_nonneg n0] at this; exact this
  have l1 := low_length g.toNat 8
  have l2 := low_length n.toNat 8
  have l3 := ints_size l
  have hkey : strOfNums (((((low g.toNat 8 ++ [r]) ++ ints l.data.toList) ++ [0]) ++ low n.toNat 8) ++ [x]) = keyS g r l n x := by
    unfold keyS
    rw [str_app, str_app, str_app, str_app, str_app, str_ints]
    rfl
  generalize keyS g r l n x = KS at hkey ⊢
  generalize low g.toNat 8 = LG at hg l1 hkey
  generalize low n.toNat 8 = LN at hn l2 hkey
  obtain ⟨LL, eL⟩ : ∃ LL, ints l.data.toList = LL := ⟨_, rfl⟩
  rw [eL] at l3 hkey
  have B1 : ∀ {W : World}, Below (w.heap.size + 1) W W → True := fun _ => trivial
  clear B1
  obtain ⟨P1, e1⟩ : ∃ P1, P1 = LG ++ [r] := ⟨_, rfl⟩
  obtain ⟨P2, e2⟩ : ∃ P2, P2 = P1 ++ LL := ⟨_, rfl⟩
  obtain ⟨P3, e3⟩ : ∃ P3, P3 = P2 ++ [0] := ⟨_, rfl⟩
  obtain ⟨P4, e4⟩ : ∃ P4, P4 = P3 ++ LN := ⟨_, rfl⟩
  obtain ⟨P5, e5⟩ : ∃ P5, P5 = P4 ++ [x] := ⟨_, rfl⟩
  have hkey' : strOfNums P5 = KS := by rw [e5, e4, e3, e2, e1]; exact hkey
  have s1 : P1.length = 9 := by rw [e1, List.length_append]; simp [l1]
  have s2 : P2.length = 9 + l.size := by rw [e2, List.length_append]; omega
  have s3 : P3.length = 10 + l.size := by rw [e3, List.length_append]; simp; omega
  have s4 : P4.length = 18 + l.size := by rw [e4, List.length_append]; omega
  have hap1 : ∀ (W : World) (v : Value) (ad : Addr), Own 5 W (w.heap.size + 1) v LG → Rd W (some ad) [r] → w.heap.size + 1 ≤ W.heap.size → ∃ a' c' w', (Builtin.append_ #[121, 121] 121 #[v, .slice (some ad) 1 1]).run Tryz.prog W = .ok (.slice a' P1.length c') w' ∧ Own 5 w' (w.heap.size + 1) (.slice a' P1.length c') P1 ∧ (a' = none → c' = 0) ∧ Below (w.heap.size + 1) W w' := fun W v ad q1 q2 hs => by
    have hh := app_own (p := LG) (l := [r]) (ao := some ad) (c := 1) q1 (fun h => by cases h) q2 (by show _ + 1 ≤ _; omega) hs
    rw [show ([r] : List Int).length = 1 from rfl] at hh
    rw [e1]; exact hh
  have hap2 : ∀ (W : World) (v : Value), Own 5 W (w.heap.size + 1) v P1 → w.heap.size + 1 ≤ W.heap.size → ∃ a' c' w', (Builtin.append_ #[121, 9] 121 #[v, .string l]).run Tryz.prog W = .ok (.slice a' P2.length c') w' ∧ Own 5 w' (w.heap.size + 1) (.slice a' P2.length c') P2 ∧ (a' = none → c' = 0) ∧ Below (w.heap.size + 1) W w' := fun W v q1 hs => by
    have hh := app_str (p := P1) l q1 (by omega) hs
    rw [eL] at hh
    rw [e2]; exact hh
  have hap3 : ∀ (W : World) (v : Value) (ad : Addr), Own 5 W (w.heap.size + 1) v P2 → Rd W (some ad) [0] → w.heap.size + 1 ≤ W.heap.size → ∃ a' c' w', (Builtin.append_ #[121, 121] 121 #[v, .slice (some ad) 1 1]).run Tryz.prog W = .ok (.slice a' P3.length c') w' ∧ Own 5 w' (w.heap.size + 1) (.slice a' P3.length c') P3 ∧ (a' = none → c' = 0) ∧ Below (w.heap.size + 1) W w' := fun W v ad q1 q2 hs => by
    have hh := app_own (p := P2) (l := [0]) (ao := some ad) (c := 1) q1 (fun h => by cases h) q2 (by show _ + 1 ≤ _; omega) hs
    rw [show ([0] : List Int).length = 1 from rfl] at hh
    rw [e3]; exact hh
  have hap4 : ∀ (W : World) (v : Value) (ad : Option Addr) (c : Nat), Own 5 W (w.heap.size + 1) v P3 → Rd W ad LN → (ad = none → c = 0) → w.heap.size + 1 ≤ W.heap.size → ∃ a' c' w', (Builtin.append_ #[121, 121] 121 #[v, .slice ad LN.length c]).run Tryz.prog W = .ok (.slice a' P4.length c') w' ∧ Own 5 w' (w.heap.size + 1) (.slice a' P4.length c') P4 ∧ (a' = none → c' = 0) ∧ Below (w.heap.size + 1) W w' := fun W v ad c q1 q2 q3 hs => by
    have hh := app_own (p := P3) (l := LN) (ao := ad) (c := c) q1 q3 q2 (by omega) hs
    rw [e4]; exact hh
  have hap5 : ∀ (W : World) (v : Value) (ad : Addr), Own 5 W (w.heap.size + 1) v P4 → Rd W (some ad) [x] → w.heap.size + 1 ≤ W.heap.size → ∃ a' c' w', (Builtin.append_ #[121, 121] 121 #[v, .slice (some ad) 1 1]).run Tryz.prog W = .ok (.slice a' P5.length c') w' ∧ Own 5 w' (w.heap.size + 1) (.slice a' P5.length c') P5 ∧ (a' = none → c' = 0) ∧ Below (w.heap.size + 1) W w' := fun W v ad q1 q2 hs => by
    have hh := app_own (p := P4) (l := [x]) (ao := some ad) (c := 1) q1 (fun h => by cases h) q2 (by show _ + 1 ≤ _; omega) hs
    rw [show ([x] : List Int).length = 1 from rfl] at hh
    rw [e5]; exact hh
  have hkc : ∀ W, Below (w.heap.size + 1) (w.alloc (.cells #[.int .i64 g, .int .i64 r, .string l, .int .i64 n, .int .i64 x] 43)) W → W.heap[w.heap.size]? = some (.cells #[.int .i64 g, .int .i64 r, .string l, .int .i64 n, .int .i64 x] 43) := fun W h => (h.block _ (by omega)).trans hbk
  clear e1 e2 e3 e4 e5 hkey s1 s2 s3 s4 l1 l2 l3 eL
  go_enter Tryz.func176, Tryz.ntmps176
  go_wp2
  have hs0 : w.heap.size + 1 ≤ (w.alloc (.cells #[.int .i64 g, .int .i64 r, .string l, .int .i64 n, .int .i64 x] 43)).drew.heap.size := by show _ ≤ (w.alloc _).heap.size; simp
  generalize (w.alloc (.cells #[.int .i64 g, .int .i64 r, .string l, .int .i64 n, .int .i64 x] 43)) = W0 at hb hbk hkc p0 p1 p2 p3 p4 hs0 ⊢
  have hS1 : W0.drew.cell? ⟨w.heap.size, 0, none⟩ = some (.int .i64 g) ∧ W0.drew.cell? ⟨w.heap.size, 1, none⟩ = some (.int .i64 r) ∧ W0.drew.cell? ⟨w.heap.size, 2, none⟩ = some (.string l) ∧ W0.drew.cell? ⟨w.heap.size, 3, none⟩ = some (.int .i64 n) ∧ W0.drew.cell? ⟨w.heap.size, 4, none⟩ = some (.int .i64 x) := ⟨p0, p1, p2, p3, p4⟩
  have hBW : Below w.heap.size w W0.drew := hb.drew
  have hBW0 : Below w.heap.size w W0 := hb
  have hB0 : Below (w.heap.size + 1) W0 W0.drew := (Below.refl _ W0).drew
  clear hb p0 p1 p2 p3 p4 hbk
  have HK := hide hkc
  clear hkc
  go_cut [3] (fun v3 wc => ∃ a9 c9, v3 = .slice a9 P1.length c9 ∧ Hid (Own 5 wc (w.heap.size + 1) (.slice a9 P1.length c9) P1 ∧ Below (w.heap.size + 1) W0 wc))
  case first =>
    as_aux_lemma =>
      refine wp_region_held_drew (S := (fun w' => w'.cell? ⟨w.heap.size, 0, none⟩ = some (.int .i64 g) ∧ w'.cell? ⟨w.heap.size, 1, none⟩ = some (.int .i64 r) ∧ w'.cell? ⟨w.heap.size, 2, none⟩ = some (.string l) ∧ w'.cell? ⟨w.heap.size, 3, none⟩ = some (.int .i64 n) ∧ w'.cell? ⟨w.heap.size, 4, none⟩ = some (.int .i64 x))) (by kernel_rfl) (by exact hS1) (fun hHeld => ?_)
      try dsimp only at hHeld
      refine take_op (i := 0) (d := 4) (OP := Op.fieldAddr 43 (Operand.tmp 1) 0) (T := 0) (v := ?vy1x) rfl rfl rfl rfl (by kernel_rfl) (by kernel_rfl) (by kernel_rfl) (fun _ _ _ h => h) (by rfl) ?hy1x hHeld ?ry1x
      case hy1x => (intro w' hSw; (try dsimp only at hSw); go_simp <;> with_reducible rfl)
      try simp only [Act.put, sI, sZ, sS]
      refine take_op (i := 1) (d := 5) (OP := Op.load 2 (Operand.tmp 4)) (T := 2) (v := ?vy2x) rfl rfl rfl rfl (by kernel_rfl) (by kernel_rfl) (by kernel_rfl) (fun _ _ _ h => h) (by rfl) ?hy2x hHeld ?ry2x
      case hy2x => (intro w' hSw; (try dsimp only at hSw); go_simp <;> with_reducible rfl)
      try simp only [Act.put, sI, sZ, sS]
      refine take_op (i := 3) (d := 7) (OP := Op.fieldAddr 43 (Operand.tmp 1) 1) (T := 0) (v := ?vy3x) rfl rfl rfl rfl (by kernel_rfl) (by kernel_rfl) (by kernel_rfl) (fun _ _ _ h => h) (by rfl) ?hy3x hHeld ?ry3x
      case hy3x => (intro w' hSw; (try dsimp only at hSw); go_simp <;> with_reducible rfl)
      try simp only [Act.put, sI, sZ, sS]
      refine take_op (i := 4) (d := 8) (OP := Op.fieldAddr 41 (Operand.tmp 7) 0) (T := 0) (v := ?vy4x) rfl rfl rfl rfl (by kernel_rfl) (by kernel_rfl) (by kernel_rfl) (fun _ _ _ h => h) (by rfl) ?hy4x hHeld ?ry4x
      case hy4x => (intro w' hSw; (try dsimp only at hSw); go_simp <;> with_reducible rfl)
      try simp only [Act.put, sI, sZ, sS]
      refine take_op (i := 5) (d := 9) (OP := Op.fieldAddr 39 (Operand.tmp 8) 0) (T := 0) (v := ?vy5x) rfl rfl rfl rfl (by kernel_rfl) (by kernel_rfl) (by kernel_rfl) (fun _ _ _ h => h) (by rfl) ?hy5x hHeld ?ry5x
      case hy5x => (intro w' hSw; (try dsimp only at hSw); go_simp <;> with_reducible rfl)
      try simp only [Act.put, sI, sZ, sS]
      refine take_op (i := 6) (d := 10) (OP := Op.load 3 (Operand.tmp 9)) (T := 3) (v := ?vy6x) rfl rfl rfl rfl (by kernel_rfl) (by kernel_rfl) (by kernel_rfl) (fun _ _ _ h => h) (by rfl) ?hy6x hHeld ?ry6x
      case hy6x => (intro w' hSw; (try dsimp only at hSw); go_simp <;> with_reducible rfl)
      try simp only [Act.put, sI, sZ, sS]
      refine take_op (i := 7) (d := 11) (OP := Op.convert 3 5 (Operand.tmp 10)) (T := 5) (v := ?vy7x) rfl rfl rfl rfl (by kernel_rfl) (by kernel_rfl) (by kernel_rfl) (fun _ _ _ h => h) (by rfl) ?hy7x hHeld ?ry7x
      case hy7x => (intro w' hSw; (try dsimp only at hSw); go_simp <;> with_reducible rfl)
      try simp only [Act.put, sI, sZ, sS]
      have bl : Below (w.heap.size + 1) W0.drew (W0.drew.alloc (.cells #[.int .u8 r] 5)) := (Below.refl _ W0.drew).alloc hs0 _
      have hSl : (W0.drew.alloc (.cells #[.int .u8 r] 5)).cell? ⟨w.heap.size, 0, none⟩ = some (.int .i64 g) ∧ (W0.drew.alloc (.cells #[.int .u8 r] 5)).cell? ⟨w.heap.size, 1, none⟩ = some (.int .i64 r) ∧ (W0.drew.alloc (.cells #[.int .u8 r] 5)).cell? ⟨w.heap.size, 2, none⟩ = some (.string l) ∧ (W0.drew.alloc (.cells #[.int .u8 r] 5)).cell? ⟨w.heap.size, 3, none⟩ = some (.int .i64 n) ∧ (W0.drew.alloc (.cells #[.int .u8 r] 5)).cell? ⟨w.heap.size, 4, none⟩ = some (.int .i64 x) := ⟨(bl.cell (by simp)).trans hHeld.1, (bl.cell (by simp)).trans hHeld.2.1, (bl.cell (by simp)).trans hHeld.2.2.1, (bl.cell (by simp)).trans hHeld.2.2.2.1, (bl.cell (by simp)).trans hHeld.2.2.2.2⟩
      refine call_turn_op (i := 2) (di := 6) (OPi := Op.call { callee := Callee.value (Operand.func 210), args := #[Operand.tmp 5], argTypes := #[2] }) (Ti := 121) (j := 8) (dj := 12) (OPj := Op.buildSlice 121 1 #[(0, Operand.tmp 11)]) (Tj := 121) (f := 210) (args := #[.int .i64 g]) (u := .slice (some ⟨W0.drew.heap.size, 0, none⟩) 1 1) (w' := W0.drew.alloc (.cells #[.int .u8 r] 5)) rfl rfl rfl rfl rfl rfl rfl rfl (by kernel_rfl) (by rfl) (by rfl) (by go_simp) (by go_simp) hSl ?_ ?_
      · refine (hg _).mono ?_
        rintro e w3 ⟨a1, c1, rfl, hO3, m1, b3⟩
        have hz3 := b3.size
        have hS3 : w3.cell? ⟨w.heap.size, 0, none⟩ = some (.int .i64 g) ∧ w3.cell? ⟨w.heap.size, 1, none⟩ = some (.int .i64 r) ∧ w3.cell? ⟨w.heap.size, 2, none⟩ = some (.string l) ∧ w3.cell? ⟨w.heap.size, 3, none⟩ = some (.int .i64 n) ∧ w3.cell? ⟨w.heap.size, 4, none⟩ = some (.int .i64 x) := ⟨((b3.mono hs0).cell (by simp)).trans hHeld.1, ((b3.mono hs0).cell (by simp)).trans hHeld.2.1, ((b3.mono hs0).cell (by simp)).trans hHeld.2.2.1, ((b3.mono hs0).cell (by simp)).trans hHeld.2.2.2.1, ((b3.mono hs0).cell (by simp)).trans hHeld.2.2.2.2⟩
        refine ⟨_, rfl, hS3, ?_⟩
        replace hHeld := hS3
        try simp only [Act.put, sI, sZ, sS]
        have bm : Below (w.heap.size + 1) w3 (w3.alloc (.cells #[.int .u8 r] 5)) := (Below.refl _ w3).alloc (by omega) _
        have hSm : (w3.alloc (.cells #[.int .u8 r] 5)).cell? ⟨w.heap.size, 0, none⟩ = some (.int .i64 g) ∧ (w3.alloc (.cells #[.int .u8 r] 5)).cell? ⟨w.heap.size, 1, none⟩ = some (.int .i64 r) ∧ (w3.alloc (.cells #[.int .u8 r] 5)).cell? ⟨w.heap.size, 2, none⟩ = some (.string l) ∧ (w3.alloc (.cells #[.int .u8 r] 5)).cell? ⟨w.heap.size, 3, none⟩ = some (.int .i64 n) ∧ (w3.alloc (.cells #[.int .u8 r] 5)).cell? ⟨w.heap.size, 4, none⟩ = some (.int .i64 x) := ⟨(bm.cell (by simp)).trans hHeld.1, (bm.cell (by simp)).trans hHeld.2.1, (bm.cell (by simp)).trans hHeld.2.2.1, (bm.cell (by simp)).trans hHeld.2.2.2.1, (bm.cell (by simp)).trans hHeld.2.2.2.2⟩
        refine turn_op (i := 8) (d := 12) (OP := Op.buildSlice 121 1 #[(0, Operand.tmp 11)]) (T := 121) (v := .slice (some ⟨w3.heap.size, 0, none⟩) 1 1) (w' := w3.alloc (.cells #[.int .u8 r] 5)) rfl rfl rfl rfl (by kernel_rfl) (by rfl) (by go_simp) hSm ?_
        replace hHeld := hSm
        try simp only [Act.put, sI, sZ, sS]
        have hOx := (hO3.alloc (.cells #[.int .u8 r] 5)).lift hs0
        have hRx := rd_one w3 r
        have hsx : w.heap.size + 1 ≤ (w3.alloc (.cells #[.int .u8 r] 5)).heap.size := by simp; omega
        have hbx : Below (w.heap.size + 1) W0 (w3.alloc (.cells #[.int .u8 r] 5)) := (hB0.trans (b3.mono hs0)).alloc (by omega) _
        obtain ⟨a9, c9, w9, run9, hO9, n9, b9⟩ := hap1 (w3.alloc (.cells #[.int .u8 r] 5)) _ _ hOx hRx hsx
        have hS9 : w9.cell? ⟨w.heap.size, 0, none⟩ = some (.int .i64 g) ∧ w9.cell? ⟨w.heap.size, 1, none⟩ = some (.int .i64 r) ∧ w9.cell? ⟨w.heap.size, 2, none⟩ = some (.string l) ∧ w9.cell? ⟨w.heap.size, 3, none⟩ = some (.int .i64 n) ∧ w9.cell? ⟨w.heap.size, 4, none⟩ = some (.int .i64 x) := ⟨(b9.cell (by simp)).trans hHeld.1, (b9.cell (by simp)).trans hHeld.2.1, (b9.cell (by simp)).trans hHeld.2.2.1, (b9.cell (by simp)).trans hHeld.2.2.2.1, (b9.cell (by simp)).trans hHeld.2.2.2.2⟩
        refine turn_op (i := 9) (d := 13) (OP := Op.call { callee := Callee.builtin Builtin.append, args := #[Operand.tmp 6, Operand.tmp 12], argTypes := #[121, 121] }) (T := 121) (v := .slice a9 P1.length c9) (w' := w9) rfl rfl rfl rfl (by kernel_rfl) (by rfl) (exec_append rfl rfl run9) hS9 ?_
        replace hHeld := hS9
        try simp only [Act.put, sI, sZ, sS]
        refine take_op (i := 10) (d := 3) (OP := Op.assign (Operand.tmp 13)) (T := 121) (v := ?vy8x) rfl rfl rfl rfl (by kernel_rfl) (by kernel_rfl) (by kernel_rfl) (fun _ _ _ h => h) (by rfl) ?hy8x hHeld ?ry8x
        case hy8x => (intro w' hSw; (try dsimp only at hSw); go_simp <;> with_reducible rfl)
        try simp only [Act.put, sI, sZ, sS]
        refine wpAnyH_done (by kernel_rfl) ?_ _
        go_wp2
        go_meet
        exact ⟨a9, c9, rfl, hide ⟨hO9, hbx.trans b9⟩⟩
      · try simp only [Act.put, sI, sZ, sS]
        replace hHeld := hSl
        have hz1 : (W0.drew.alloc (.cells #[.int .u8 r] 5)).heap.size = W0.drew.heap.size + 1 := by simp
        refine call_op (i := 2) (d := 6) (OP := Op.call { callee := Callee.value (Operand.func 210), args := #[Operand.tmp 5], argTypes := #[2] }) (T := 121) (f := 210) (args := #[.int .i64 g]) rfl rfl rfl rfl (by kernel_rfl) (by rfl) (by go_simp) ?_
        refine (hg _).mono ?_
        rintro e w3 ⟨a1, c1, rfl, hO3, m1, b3⟩
        have hz3 := b3.size
        have hS3 : w3.cell? ⟨w.heap.size, 0, none⟩ = some (.int .i64 g) ∧ w3.cell? ⟨w.heap.size, 1, none⟩ = some (.int .i64 r) ∧ w3.cell? ⟨w.heap.size, 2, none⟩ = some (.string l) ∧ w3.cell? ⟨w.heap.size, 3, none⟩ = some (.int .i64 n) ∧ w3.cell? ⟨w.heap.size, 4, none⟩ = some (.int .i64 x) := ⟨((b3.mono (by omega : w.heap.size + 1 ≤ _)).cell (by simp)).trans hHeld.1, ((b3.mono (by omega : w.heap.size + 1 ≤ _)).cell (by simp)).trans hHeld.2.1, ((b3.mono (by omega : w.heap.size + 1 ≤ _)).cell (by simp)).trans hHeld.2.2.1, ((b3.mono (by omega : w.heap.size + 1 ≤ _)).cell (by simp)).trans hHeld.2.2.2.1, ((b3.mono (by omega : w.heap.size + 1 ≤ _)).cell (by simp)).trans hHeld.2.2.2.2⟩
        refine ⟨_, rfl, hS3, ?_⟩
        replace hHeld := hS3
        try simp only [Act.put, sI, sZ, sS]
        have hOx := hO3.lift (by omega : w.heap.size + 1 ≤ _)
        have hRx := (rd_one W0.drew r).below b3
        have hsx : w.heap.size + 1 ≤ w3.heap.size := by omega
        have hbx : Below (w.heap.size + 1) W0 w3 := (hB0.trans bl).trans (b3.mono (by omega))
        obtain ⟨a9, c9, w9, run9, hO9, n9, b9⟩ := hap1 w3 _ _ hOx hRx hsx
        have hS9 : w9.cell? ⟨w.heap.size, 0, none⟩ = some (.int .i64 g) ∧ w9.cell? ⟨w.heap.size, 1, none⟩ = some (.int .i64 r) ∧ w9.cell? ⟨w.heap.size, 2, none⟩ = some (.string l) ∧ w9.cell? ⟨w.heap.size, 3, none⟩ = some (.int .i64 n) ∧ w9.cell? ⟨w.heap.size, 4, none⟩ = some (.int .i64 x) := ⟨(b9.cell (by simp)).trans hHeld.1, (b9.cell (by simp)).trans hHeld.2.1, (b9.cell (by simp)).trans hHeld.2.2.1, (b9.cell (by simp)).trans hHeld.2.2.2.1, (b9.cell (by simp)).trans hHeld.2.2.2.2⟩
        refine turn_op (i := 9) (d := 13) (OP := Op.call { callee := Callee.builtin Builtin.append, args := #[Operand.tmp 6, Operand.tmp 12], argTypes := #[121, 121] }) (T := 121) (v := .slice a9 P1.length c9) (w' := w9) rfl rfl rfl rfl (by kernel_rfl) (by rfl) (exec_append rfl rfl run9) hS9 ?_
        replace hHeld := hS9
        try simp only [Act.put, sI, sZ, sS]
        refine take_op (i := 10) (d := 3) (OP := Op.assign (Operand.tmp 13)) (T := 121) (v := ?vy9x) rfl rfl rfl rfl (by kernel_rfl) (by kernel_rfl) (by kernel_rfl) (fun _ _ _ h => h) (by rfl) ?hy9x hHeld ?ry9x
        case hy9x => (intro w' hSw; (try dsimp only at hSw); go_simp <;> with_reducible rfl)
        try simp only [Act.put, sI, sZ, sS]
        refine wpAnyH_done (by kernel_rfl) ?_ _
        go_wp2
        go_meet
        exact ⟨a9, c9, rfl, hide ⟨hO9, hbx.trans b9⟩⟩
  case rest =>
    obtain ⟨a9, c9, rfl, HO⟩ := hcut
    obtain ⟨hO9, hB9⟩ := HO.out
    have z9 : w.heap.size + 1 ≤ wc.heap.size := Nat.le_trans hs0 hB9.size
    obtain ⟨y0, y1, y2, y3, y4, _, _, _, _, _⟩ := blk5 (HK.out _ hB9)
    obtain ⟨a4, c4, w4, run4, hO4, m4, b4⟩ := hap2 wc _ hO9 z9
    have z4 := Nat.le_trans z9 b4.size
    obtain ⟨a5, c5, w5, run5, hO5, m5, b5⟩ := hap3 (w4.alloc (.cells #[.int .u8 0] 5)) _ ⟨w4.heap.size, 0, none⟩ (hO4.alloc _) (rd_one w4 0) (by simp; omega)
    have z5 : w.heap.size + 1 ≤ w5.heap.size := by have := b5.size; simp at this; omega
    have hB5 : Below (w.heap.size + 1) W0 w5 := ((hB9.trans b4).alloc z4 _).trans b5
    obtain ⟨v0, v1, v2, v3, v4, _, _, _, _, _⟩ := blk5 (HK.out _ hB5)
    clear hO9 hO4 b4 b5 HO hB9
    go_wp2_with (first | (at_builtin; first | refine wpList_app2 rfl (.tmp 14) (.tmp 18) 121 9 121 rfl rfl rfl rfl run4 ?_ | refine wpList_app2 rfl (.tmp 20) (.tmp 21) 121 121 121 rfl rfl rfl rfl run5 ?_ | refine wpList_app2 rfl (.tmp 23) (.tmp 27) 121 121 121 rfl rfl rfl rfl run7 ?_ | refine wpList_app2 rfl (.tmp 29) (.tmp 33) 121 121 121 rfl rfl rfl rfl run8 ?_) | (go_at_call 210; refine (hn _).mono ?_; rintro e w6 ⟨a6, c6, rfl, hO6, m6, b6⟩; have z6 := Nat.le_trans z5 b6.size; have hB6 := hB5.trans (b6.mono z5); obtain ⟨a7, c7, w7, run7, hO7, m7, b7⟩ := hap4 w6 _ a6 c6 (hO5.below b6) hO6.rd m6 z6; clear hO6 hO5; have z7 := Nat.le_trans z6 b7.size; have hB7 := hB6.trans b7; obtain ⟨t0, t1, t2, t3, t4, _, _, _, _, _⟩ := blk5 (HK.out _ hB7); clear v0 v1 v2 v3 v4 hB6 b6 b7; obtain ⟨a8, c8, w8, run8, hO8, m8, b8⟩ := hap5 (w7.alloc (.cells #[.int .u8 x] 5)) _ ⟨w7.heap.size, 0, none⟩ (hO7.alloc _) (rd_one w7 x) (by simp; omega); have hB8 : Below (w.heap.size + 1) W0 w8 := (hB7.alloc z7 _).trans b8; have hcv := conv_rd (n := P5.length) (cap := c8) hO8.rd rfl; rw [hkey'] at hcv; clear hO7 hO8 b8 hB7))
    go_ret
    exact ⟨rfl, hBW0.trans (hB8.mono (by omega))⟩
end Go.Proofs.YtkkpdgfllnbigaaGreat
