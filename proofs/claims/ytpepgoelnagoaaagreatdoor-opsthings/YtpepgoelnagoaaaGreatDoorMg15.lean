/-
  OPS: slices.CompactFunc 84 over places.
  OPS: places sorted (slices.SortFunc 82 by keys.CmpPlace 83).
-/
import Derived.Test.YtpepgoelnagoaaaGreatDoorMg14
namespace Go.Proofs.YtpepgoelnagoaaaGreatDoor
open Go.RowKit Go.Shelf
set_option linter.unusedSimpArgs false
set_option linter.unusedVariables false
attribute [local go_sem] Oper.semAt_some

open Classical in
/-- What differs from the one ahead is kept. -/
noncomputable def onceP : Option Pl → List Px → List Px
  | _, [] => []
  | p, x :: t => if p = some x.1 then onceP p t else x :: onceP (some x.1) t
theorem onceP_nil (p : Option Pl) : onceP p [] = [] := rfl
theorem onceP_cons (p : Option Pl) (x : Px) (t : List Px) : onceP p (x :: t) = if p = some x.1 then onceP p t else x :: onceP (some x.1) t := by rw [onceP]
theorem onceP_one (L : List Px) (h : L.length < 2) : onceP none L = L := by
  match L, h with
  | [], _ => rfl
  | [x], _ => rw [onceP_cons, if_neg (by simp), onceP_nil]
def lastP (p : Option Pl) (l : List Px) : Option Pl := match l.getLast? with | some y => some y.1 | none => p
theorem lastP_cons (p : Option Pl) (y : Px) (t : List Px) : lastP p (y :: t) = lastP (some y.1) t := by
  unfold lastP
  rw [List.getLast?_cons]
  cases t.getLast? <;> simp
theorem onceP_snoc : ∀ (l : List Px) (p : Option Pl) (x : Px), (lastP p l = some x.1 → onceP p (l ++ [x]) = onceP p l) ∧ (lastP p l ≠ some x.1 → onceP p (l ++ [x]) = onceP p l ++ [x])
  | [], p, x => by
    refine ⟨fun h => ?_, fun h => ?_⟩
    · have h : p = some x.1 := h
      rw [List.nil_append, onceP_cons, if_pos h, onceP_nil]
    · have h : p ≠ some x.1 := h
      rw [List.nil_append, onceP_cons, if_neg h, onceP_nil]
      rfl
  | y :: t, p, x => by
    rw [lastP_cons, List.cons_append, onceP_cons, onceP_cons]
    by_cases hy : p = some y.1
    · rw [if_pos hy, if_pos hy, hy]
      exact onceP_snoc t (some y.1) x
    · rw [if_neg hy, if_neg hy]
      have := onceP_snoc t (some y.1) x
      exact ⟨fun h => by rw [this.1 h], fun h => by rw [this.2 h]; rfl⟩
theorem oncep_next (l : List Px) (k : Nat) (p x : Px) (hp : l[k]? = some p) (hx : l[k + 1]? = some x) : (p.1 = x.1 → onceP none (l.take (k + 1 + 1)) = onceP none (l.take (k + 1))) ∧ (p.1 ≠ x.1 → onceP none (l.take (k + 1 + 1)) = onceP none (l.take (k + 1)) ++ [x]) := by
  have h1 : l.take (k + 1 + 1) = l.take (k + 1) ++ [x] := by rw [List.take_add_one, hx]; rfl
  have h2 : lastP none (l.take (k + 1)) = some p.1 := by
    unfold lastP
    rw [List.take_add_one, hp]
    simp
  have h3 := onceP_snoc (l.take (k + 1)) none x
  rw [h2] at h3
  rw [h1]
  exact ⟨fun h => h3.1 (by rw [h]), fun h => h3.2 (fun e => h (by simpa using e))⟩
theorem oncep_sub : ∀ (l : List Px) (p : Option Pl) (x : Px), x ∈ onceP p l → x ∈ l
  | [], p, x, h => h
  | y :: t, p, x, h => by
    rw [onceP_cons] at h
    split at h
    · exact List.mem_cons_of_mem _ (oncep_sub t p x h)
    · rcases List.mem_cons.1 h with e | h
      · rw [e]; simp
      · exact List.mem_cons_of_mem _ (oncep_sub t _ x h)
theorem Os.rsq {w : World} {B pc : Nat} {pa : Option Addr} {L : List ByteArray} (h : Os w B (.slice pa L.length pc) L) : Rs w pa L := by
  obtain ⟨ao, c, e, hr, -, -, -⟩ := h.shape
  simp only [Value.slice.injEq, true_and] at e
  obtain ⟨rfl, rfl⟩ := e
  exact hr
theorem exec_index70 {ev : Operand → Value} {x i : Operand} {T : TypeId} {g off n cap k : Nat} {w : World} (hx : ev x = .slice (some ⟨g, off, none⟩) n cap) (hi : ev i = .int .i64 (k : Nat)) (hk : k < n) :
    (execOp ev { dst := none, op := .indexAddr 70 x i, type := T, pos := "", after := #[], guard := none }).run Tryz.prog w = .ok (.value (.pointer (some ⟨g, off + k * 3, none⟩))) w := by
  unfold execOp
  simp [hx, hi, hk, go_sem]
theorem exec_sub1 {ev : Operand → Value} {x : Operand} {T : TypeId} {n k : Nat} {w : World} (hx : ev x = .int .i64 ((k : Nat) + 1 : Int)) (hc : ev (.const (.int .i64 1)) = .int .i64 1) (hn : n ≤ 100000) (hk : k < n) :
    (execOp ev { dst := none, op := .binOp .sub 3 x (.const (.int .i64 1)) 3, type := T, pos := "", after := #[], guard := none }).run Tryz.prog w = .ok (.value (.int .i64 (k : Nat))) w := by
  have e : wrap64 ((k : Int) + 1 - 1) = (k : Int) := by unfold wrap64; omega
  have e2 : IntKind.i64.wrap (k : Int) = (k : Int) := by simp [IntKind.wrap, IntKind.bits, IntKind.signed]; omega
  unfold execOp
  simp [hx, hc, go_sem, e, e2]
theorem Pq.away {w W : World} {B g n cap : Nat} {L : List Px} (h : Pq w B (.slice (some ⟨g, 0, none⟩) n cap) L) (ho : Only (fun j => j = g) w W) : ∀ x ∈ L, Os W B (.slice x.2.1 x.1.1.length x.2.2) x.1.1 := fun x hx => (h.path x hx).only ho (fun k hk hd => by
  rcases h.row.2 with ⟨e, -⟩ | ⟨g', cap', cur, e, -, hg, -⟩
  · cases e
  · injection e with e1 e2 e3
    injection e1 with e1
    injection e1 with e1 _ _
    subst e1
    rcases (h.path x hx).2 with ⟨e, -⟩ | ⟨g2, cap2, cur2, e, -, hg2, -⟩
    · rw [e] at hk; cases hk
    · rw [e] at hk
      simp only [Value.ownBlock, Option.some.injEq] at hk
      subst hk
      subst hd
      rw [hg] at hg2
      simp at hg2)
theorem take_set_snoc : ∀ (M : List Px) (k : Nat) (x : Px), k < M.length → (M.set k x).take (k + 1) = M.take k ++ [x]
  | [], k, x, h => by simp at h
  | y :: t, 0, x, _ => by simp
  | y :: t, k + 1, x, h => by
    have := take_set_snoc t k x (by simpa using h)
    rw [List.set_cons_succ, List.take_succ_cons, List.take_succ_cons, this]
    rfl
theorem drop_set_of_lt {M : List Px} {k i : Nat} {x : Px} (h : k < i) : (M.set k x).drop i = M.drop i := by
  rw [List.drop_set, if_pos h]
theorem slice_lo {g n cap k : Nat} (hk : k < n) (hn : n ≤ cap) (w : World) : (Instr.slice 70 (.slice (some ⟨g, 0, none⟩) n cap) (some (.int .i64 (k : Nat))) none none).run Tryz.prog w = .ok (.slice (some ⟨g, k * 3, none⟩) (n - k) (cap - k)) w := by
  have h1 : (0 : Int) ≤ (k : Int) ∧ (k : Int) ≤ (n : Int) := by omega
  have h2 : (0 : Int) ≤ (n : Int) ∧ (n : Int) ≤ (cap : Int) := by omega
  have h3 : ¬ cap = k := by omega
  simp [Instr.slice, Instr.sliceBounds, Instr.sliceBound, asIntOf, run_underlying Tryz.underlying70, go_sem, show k ≤ n by omega, show k ≤ cap by omega, hn, h3]
theorem slice_hi {g n cap k : Nat} (hk : k ≤ n) (hn : n ≤ cap) (w : World) : (Instr.slice 70 (.slice (some ⟨g, 0, none⟩) n cap) none (some (.int .i64 (k : Nat))) none).run Tryz.prog w = .ok (.slice (some ⟨g, 0, none⟩) k cap) w := by
  have h2 : (0 : Int) ≤ (k : Int) ∧ (k : Int) ≤ (cap : Int) := by omega
  simp [Instr.slice, Instr.sliceBounds, Instr.sliceBound, asIntOf, run_underlying Tryz.underlying70, go_sem, show k ≤ cap by omega]
/-- The row while it is made shorter: what was gone through stands in front. -/
structure CkS (w : World) (B g cap : Nat) (L : List Px) (i k : Nat) (W : World) : Prop where
  row : ∃ M : List Px, M.length = L.length ∧ M.take k = onceP none (L.take i) ∧ M.drop (i - 1) = L.drop (i - 1) ∧ Opl W B (.slice (some ⟨g, 0, none⟩) M.length cap) M
  only : Only (fun j => j = g) w W
  lt : k < i

set_option maxHeartbeats 8000000 in
set_option maxRecDepth 100000 in
theorem compact84_any {w : World} {B g cap : Nat} {L : List Px} (h : Pq w B (.slice (some ⟨g, 0, none⟩) L.length cap) L) (hl : L.length ≤ 100000) : Calls Tryz.prog 84 #[.slice (some ⟨g, 0, none⟩) L.length cap, .func (.func 85) #[] #[]] w fun e w' => ∃ v, e = .returned v ∧ Pq w' B v (onceP none L) ∧ Only (fun j => j = g) w w' := by
  have hplen := h.plen
  have hcapL : L.length ≤ cap := by
    rcases h.row.2 with ⟨h1, _⟩ | ⟨g', cap', cur', e, hb', hg', hnc', _⟩
    · cases h1
    · injection e with e1 e2 e3
      omega
  have k85 : ∀ W, Only (fun j => j = g) w W → ∀ x y, x ∈ L → y ∈ L → Calls Tryz.prog 85 #[plV x, plV y] W fun e w' => e = .returned (.bool (decide (x.1 = y.1))) ∧ Below W.heap.size W w' := fun W hW x y hx hy => by
    exact samePlace_any x y (h.away hW x hx).rsq (h.away hW y hy).rsq (hplen x hx)
  have H := hide (And.intro h (And.intro hplen (And.intro k85 hcapL)))
  clear h hplen k85
  obtain ⟨n, hn⟩ : ∃ r, r = L.length := ⟨_, rfl⟩
  have HN := hide hn
  rw [← hn]
  have hlb : n ≤ 100000 := by omega
  have hnc : n ≤ cap := by omega
  clear hl hn hcapL
  go_enter Tryz.func84, Tryz.ntmps84
  by_cases h2 : n < 2
  · have z : (n : Int) < 2 := by omega
    go_wp2
    go_ret
    have e := onceP_one L (by rw [← HN.out]; exact h2)
    rw [e]
    exact ⟨_, rfl, by rw [HN.out]; exact H.out.1, Only.refl _ _⟩
  · have z : ¬ (n : Int) < 2 := by omega
    go_upto_region 3 with fail
    go_wp2
    go_loopw [5] (fun v5 wr => ∃ k : Nat, v5 = .int .i64 ((k : Nat) + 1 : Int) ∧ k + 1 ≤ n ∧ Hid (onceP none (L.take (k + 1)) = L.take (k + 1)) ∧ Hid (Below w.heap.size w wr)) (fun v5 _ => n + 1 - (intOf v5).toNat)
    case atStart => exact ⟨0, rfl, by omega, hide (onceP_one _ (by rw [List.length_take]; omega)), hide (Below.refl _ _)⟩
    case round =>
      obtain ⟨k, rfl, hkn, HT, HB⟩ := hrel
      by_cases hlt : k + 1 < n
      · have z1 : (k : Int) + 1 < (n : Int) := by omega
        obtain ⟨x, hx⟩ : ∃ r, L[k + 1]? = some r := ⟨_, List.getElem?_eq_getElem (by rw [← HN.out]; exact hlt)⟩
        obtain ⟨p, hp⟩ : ∃ r, L[k]? = some r := ⟨_, List.getElem?_eq_getElem (by rw [← HN.out]; omega)⟩
        have hx0 : (k + 1 < n) ∧ (k < n) := by omega
        have hO : Opl wr B (.slice (some ⟨g, 0, none⟩) L.length cap) L := H.out.1.row.below HB.out
        obtain ⟨c0, c1, c2⟩ := hO.cells3 hx
        obtain ⟨d0, d1, d2⟩ := hO.cells3 hp
        have HX := hide (And.intro hx hp)
        clear hx hp hO
        go_upto_region 6 with fail
        refine wp_region_held_drew (S := fun w' => (w'.cell? ⟨g, (k + 1) * 3, none⟩ = some (.slice x.2.1 x.1.1.length x.2.2) ∧ w'.cell? ⟨g, (k + 1) * 3 + 1, none⟩ = some (.int .i64 x.1.2.1) ∧ w'.cell? ⟨g, (k + 1) * 3 + 2, none⟩ = some (.string x.1.2.2)) ∧ (w'.cell? ⟨g, k * 3, none⟩ = some (.slice p.2.1 p.1.1.length p.2.2) ∧ w'.cell? ⟨g, k * 3 + 1, none⟩ = some (.int .i64 p.1.2.1) ∧ w'.cell? ⟨g, k * 3 + 2, none⟩ = some (.string p.1.2.2))) (by kernel_rfl) ⟨⟨c0, c1, c2⟩, d0, d1, d2⟩ (fun hHeld => ?_)
        have hbd : Below w.heap.size w wr.drew := HB.out.drew
        obtain ⟨Wd, hWd⟩ : ∃ r, r = wr.drew := ⟨_, rfl⟩
        rw [← hWd] at hHeld hbd ⊢
        clear hWd c0 c1 c2 d0 d1 d2
        have k85 := H.out.2.2.1 Wd (Ki.below_only hbd) x p (List.mem_of_getElem? HX.out.1) (List.mem_of_getElem? HX.out.2)
        refine take_op (i := 0) (d := 18) (OP := Op.move (Operand.tmp 1)) (T := 127) (v := ?voga1) rfl rfl rfl rfl (by kernel_rfl) (by kernel_rfl) (by kernel_rfl) (fun _ _ _ h => h) (by rfl) ?hoga1 hHeld ?roga1
        case hoga1 => (intro w' hSw; (try dsimp only at hSw); go_simp <;> with_reducible rfl)
        try simp only [Act.put, List.setIfInBounds_toArray, List.set_cons_zero, List.set_cons_succ]
        refine take_op (i := 1) (d := 19) (OP := Op.move (Operand.tmp 0)) (T := 70) (v := ?voga2) rfl rfl rfl rfl (by kernel_rfl) (by kernel_rfl) (by kernel_rfl) (fun _ _ _ h => h) (by rfl) ?hoga2 hHeld ?roga2
        case hoga2 => (intro w' hSw; (try dsimp only at hSw); go_simp <;> with_reducible rfl)
        try simp only [Act.put, List.setIfInBounds_toArray, List.set_cons_zero, List.set_cons_succ]
        refine take_op (i := 2) (d := 20) (OP := Op.move (Operand.tmp 5)) (T := 3) (v := ?voga3) rfl rfl rfl rfl (by kernel_rfl) (by kernel_rfl) (by kernel_rfl) (fun _ _ _ h => h) (by rfl) ?hoga3 hHeld ?roga3
        case hoga3 => (intro w' hSw; (try dsimp only at hSw); go_simp <;> with_reducible rfl)
        try simp only [Act.put, List.setIfInBounds_toArray, List.set_cons_zero, List.set_cons_succ]
        refine take_op (i := 3) (d := 21) (OP := Op.indexAddr 70 (Operand.tmp 19) (Operand.tmp 20)) (T := 0) (v := (.pointer (some ⟨g, (k + 1) * 3, none⟩))) rfl rfl rfl rfl (by kernel_rfl) (by kernel_rfl) (by kernel_rfl) (fun _ _ _ h => h) (by rfl) ?hoga4 hHeld ?roga4
        case hoga4 => (intro w' hSw; exact (exec_index70 (k := k + 1) rfl rfl hx0.1).trans (by rw [Nat.zero_add]))
        try simp only [Act.put, List.setIfInBounds_toArray, List.set_cons_zero, List.set_cons_succ]
        refine take_op (i := 4) (d := 22) (OP := Op.load 75 (Operand.tmp 21)) (T := 75) (v := ?voga5) rfl rfl rfl rfl (by kernel_rfl) (by kernel_rfl) (by kernel_rfl) (fun _ _ _ h => h) (by rfl) ?hoga5 hHeld ?roga5
        case hoga5 => (intro w' hSw; (try dsimp only at hSw); go_simp <;> with_reducible rfl)
        try simp only [Act.put, List.setIfInBounds_toArray, List.set_cons_zero, List.set_cons_succ]
        refine take_op (i := 5) (d := 23) (OP := Op.move (Operand.tmp 0)) (T := 70) (v := ?voga6) rfl rfl rfl rfl (by kernel_rfl) (by kernel_rfl) (by kernel_rfl) (fun _ _ _ h => h) (by rfl) ?hoga6 hHeld ?roga6
        case hoga6 => (intro w' hSw; (try dsimp only at hSw); go_simp <;> with_reducible rfl)
        try simp only [Act.put, List.setIfInBounds_toArray, List.set_cons_zero, List.set_cons_succ]
        refine take_op (i := 6) (d := 24) (OP := Op.move (Operand.tmp 5)) (T := 3) (v := ?voga7) rfl rfl rfl rfl (by kernel_rfl) (by kernel_rfl) (by kernel_rfl) (fun _ _ _ h => h) (by rfl) ?hoga7 hHeld ?roga7
        case hoga7 => (intro w' hSw; (try dsimp only at hSw); go_simp <;> with_reducible rfl)
        try simp only [Act.put, List.setIfInBounds_toArray, List.set_cons_zero, List.set_cons_succ]
        refine take_op (i := 7) (d := 25) (OP := Op.binOp BinOp.sub 3 (Operand.tmp 24) (Operand.const (Value.int IntKind.i64 1)) 3) (T := 3) (v := (.int .i64 (k : Nat))) rfl rfl rfl rfl (by kernel_rfl) (by kernel_rfl) (by kernel_rfl) (fun _ _ _ h => h) (by rfl) ?hoga8 hHeld ?roga8
        case hoga8 => (intro w' hSw; exact exec_sub1 rfl rfl hlb hx0.2)
        try simp only [Act.put, List.setIfInBounds_toArray, List.set_cons_zero, List.set_cons_succ]
        refine take_op (i := 8) (d := 26) (OP := Op.indexAddr 70 (Operand.tmp 23) (Operand.tmp 25)) (T := 0) (v := (.pointer (some ⟨g, k * 3, none⟩))) rfl rfl rfl rfl (by kernel_rfl) (by kernel_rfl) (by kernel_rfl) (fun _ _ _ h => h) (by rfl) ?hoga9 hHeld ?roga9
        case hoga9 => (intro w' hSw; exact (exec_index70 (k := k) rfl rfl hx0.2).trans (by rw [Nat.zero_add]))
        try simp only [Act.put, List.setIfInBounds_toArray, List.set_cons_zero, List.set_cons_succ]
        refine take_op (i := 9) (d := 27) (OP := Op.load 75 (Operand.tmp 26)) (T := 75) (v := ?voga10) rfl rfl rfl rfl (by kernel_rfl) (by kernel_rfl) (by kernel_rfl) (fun _ _ _ h => h) (by rfl) ?hoga10 hHeld ?roga10
        case hoga10 => (intro w' hSw; (try dsimp only at hSw); go_simp <;> with_reducible rfl)
        try simp only [Act.put, List.setIfInBounds_toArray, List.set_cons_zero, List.set_cons_succ]
        refine call_op (i := 10) (d := 28) (OP := Op.call { callee := Callee.value (Operand.tmp 18), args := #[Operand.tmp 22, Operand.tmp 27], argTypes := #[75, 75] }) (T := 4) (f := 85) (args := #[plV x, plV p]) rfl rfl rfl rfl (by kernel_rfl) (by rfl) (by go_simp) ?_
        refine k85.mono ?_
        rintro e y1 ⟨rfl, by1⟩
        have hb1 := hbd.trans (by1.mono hbd.size)
        refine ⟨_, rfl, ⟨⟨Ki.cell_stays hHeld.1.1 by1, Ki.cell_stays hHeld.1.2.1 by1, Ki.cell_stays hHeld.1.2.2 by1⟩, Ki.cell_stays hHeld.2.1 by1, Ki.cell_stays hHeld.2.2.1 by1, Ki.cell_stays hHeld.2.2.2 by1⟩, ?_⟩
        try simp only [Act.put, List.setIfInBounds_toArray, List.set_cons_zero, List.set_cons_succ]
        refine wpAnyH_done (by kernel_rfl) ?_ _
        have HB1 := hide hb1
        clear hb1 by1 hHeld hbd k85
        by_cases hxp : x.1 = p.1
        · have hd : decide (x.1 = p.1) = true := decide_eq_true hxp
          rw [hd]
          obtain ⟨q1, -⟩ := oncep_next L k p x HX.out.2 HX.out.1
          have HCK : Hid (CkS w B g cap L (k + 1 + 1) (k + 1) y1) := hide ⟨⟨L, rfl, by rw [q1 hxp.symm, HT.out], rfl, H.out.1.row.below HB1.out⟩, Ki.below_only HB1.out, by omega⟩
          clear q1 hd
          obtain ⟨i0, hi0⟩ : ∃ r, r = k + 1 := ⟨_, rfl⟩
          have hsl := fun W => slice_lo (g := g) (k := i0) (n := n) (cap := cap) (by omega) hnc W
          have hci : ((k : Int) + 1) = ((i0 : Nat) : Int) := by omega
          rw [hci]
          rw [← hi0] at HCK
          have hi0n : i0 < n := by omega
          have hi1 : 1 ≤ i0 := by omega
          clear hci hi0 z1 hlt hkn hx0
          go_upto_region 8 with fail
          obtain ⟨n2, hn2⟩ : ∃ r, r = n - i0 := ⟨_, rfl⟩
          rw [← hn2]
          have HN2 := hide hn2
          have hn2b : n2 ≤ 100000 := by omega
          have hn21 : 1 ≤ n2 := by omega
          clear hn2 hsl
          go_wp2
          go_loopw [5, 7] (fun v5 v7 wr => ∃ kk k2 : Nat, v5 = .int .i64 (kk : Nat) ∧ v7 = .int .i64 ((k2 : Nat) + 1 : Int) ∧ k2 + 1 ≤ n2 ∧ Hid (CkS w B g cap L (i0 + (k2 + 1)) kk wr)) (fun _ v7 _ => n2 + 1 - (intOf v7).toNat)
          case atStart => exact ⟨i0, 0, by simp, by simp, hn21, HCK⟩
          case round =>
            obtain ⟨kk, k2, rfl, rfl, hk2, HC⟩ := hrel
            have hkk : kk < i0 + (k2 + 1) := HC.out.lt
            obtain ⟨M, hM1, hM2, hM3, hM4⟩ := HC.out.row
            by_cases hlt : k2 + 1 < n2
            · have hin : i0 + (k2 + 1) < n := by have := HN2.out; omega
              obtain ⟨x', hx'⟩ : ∃ r, L[i0 + (k2 + 1)]? = some r := ⟨_, List.getElem?_eq_getElem (by rw [← HN.out]; exact hin)⟩
              obtain ⟨p', hp'⟩ : ∃ r, L[i0 + k2]? = some r := ⟨_, List.getElem?_eq_getElem (by rw [← HN.out]; omega)⟩
              have hx2 : k2 + 1 < n2 ∧ k2 < n2 := by omega
              have hMx : M[i0 + (k2 + 1)]? = some x' := by
                have := congrArg (fun l => l[1]?) hM3
                simp only [List.getElem?_drop] at this
                rw [show i0 + (k2 + 1) - 1 + 1 = i0 + (k2 + 1) by omega] at this
                rw [this]; exact hx'
              have hMp : M[i0 + k2]? = some p' := by
                have := congrArg (fun l => l[0]?) hM3
                simp only [List.getElem?_drop] at this
                rw [show i0 + (k2 + 1) - 1 + 0 = i0 + k2 by omega] at this
                rw [this]; exact hp'
              obtain ⟨c0, c1, c2⟩ := hM4.cells3 hMx
              obtain ⟨d0, d1, d2⟩ := hM4.cells3 hMp
              rw [show (i0 + (k2 + 1)) * 3 = i0 * 3 + (k2 + 1) * 3 by omega] at c0 c1 c2
              rw [show (i0 + k2) * 3 = i0 * 3 + k2 * 3 by omega] at d0 d1 d2
              have HM := hide (And.intro hM1 (And.intro hM2 (And.intro hM3 (And.intro hM4 (And.intro hx' hp')))))
              clear hM1 hM2 hM3 hM4 hx' hp' hMx hMp
              have hkn : kk < n := by omega
              go_upto_region 11 with fail
              refine wp_region_held_drew (S := fun w' => (w'.cell? ⟨g, i0 * 3 + (k2 + 1) * 3, none⟩ = some (.slice x'.2.1 x'.1.1.length x'.2.2) ∧ w'.cell? ⟨g, i0 * 3 + (k2 + 1) * 3 + 1, none⟩ = some (.int .i64 x'.1.2.1) ∧ w'.cell? ⟨g, i0 * 3 + (k2 + 1) * 3 + 2, none⟩ = some (.string x'.1.2.2)) ∧ (w'.cell? ⟨g, i0 * 3 + k2 * 3, none⟩ = some (.slice p'.2.1 p'.1.1.length p'.2.2) ∧ w'.cell? ⟨g, i0 * 3 + k2 * 3 + 1, none⟩ = some (.int .i64 p'.1.2.1) ∧ w'.cell? ⟨g, i0 * 3 + k2 * 3 + 2, none⟩ = some (.string p'.1.2.2))) (by kernel_rfl) ⟨⟨c0, c1, c2⟩, d0, d1, d2⟩ (fun hHeld => ?_)
              have hbd : Below wr.heap.size wr wr.drew := (Below.refl _ _).drew
              obtain ⟨Wd, hWd⟩ : ∃ r, r = wr.drew := ⟨_, rfl⟩
              rw [← hWd] at hHeld hbd ⊢
              clear hWd c0 c1 c2 d0 d1 d2
              have k85 := H.out.2.2.1 Wd (HC.out.only.trans (Ki.below_only hbd) (fun _ _ e => e)) x' p' (List.mem_of_getElem? HM.out.2.2.2.2.1) (List.mem_of_getElem? HM.out.2.2.2.2.2)
              refine take_op (i := 0) (d := 38) (OP := Op.move (Operand.tmp 1)) (T := 127) (v := ?vogb11) rfl rfl rfl rfl (by kernel_rfl) (by kernel_rfl) (by kernel_rfl) (fun _ _ _ h => h) (by rfl) ?hogb11 hHeld ?rogb11
              case hogb11 => (intro w' hSw; (try dsimp only at hSw); go_simp <;> with_reducible rfl)
              try simp only [Act.put, List.setIfInBounds_toArray, List.set_cons_zero, List.set_cons_succ]
              refine take_op (i := 1) (d := 39) (OP := Op.move (Operand.tmp 6)) (T := 70) (v := ?vogb12) rfl rfl rfl rfl (by kernel_rfl) (by kernel_rfl) (by kernel_rfl) (fun _ _ _ h => h) (by rfl) ?hogb12 hHeld ?rogb12
              case hogb12 => (intro w' hSw; (try dsimp only at hSw); go_simp <;> with_reducible rfl)
              try simp only [Act.put, List.setIfInBounds_toArray, List.set_cons_zero, List.set_cons_succ]
              refine take_op (i := 2) (d := 40) (OP := Op.move (Operand.tmp 7)) (T := 3) (v := ?vogb13) rfl rfl rfl rfl (by kernel_rfl) (by kernel_rfl) (by kernel_rfl) (fun _ _ _ h => h) (by rfl) ?hogb13 hHeld ?rogb13
              case hogb13 => (intro w' hSw; (try dsimp only at hSw); go_simp <;> with_reducible rfl)
              try simp only [Act.put, List.setIfInBounds_toArray, List.set_cons_zero, List.set_cons_succ]
              refine take_op (i := 3) (d := 41) (OP := Op.indexAddr 70 (Operand.tmp 39) (Operand.tmp 40)) (T := 0) (v := (.pointer (some ⟨g, i0 * 3 + (k2 + 1) * 3, none⟩))) rfl rfl rfl rfl (by kernel_rfl) (by kernel_rfl) (by kernel_rfl) (fun _ _ _ h => h) (by rfl) ?hogb14 hHeld ?rogb14
              case hogb14 => (intro w' hSw; exact exec_index70 (k := k2 + 1) rfl rfl hx2.1)
              try simp only [Act.put, List.setIfInBounds_toArray, List.set_cons_zero, List.set_cons_succ]
              refine take_op (i := 4) (d := 42) (OP := Op.load 75 (Operand.tmp 41)) (T := 75) (v := ?vogb15) rfl rfl rfl rfl (by kernel_rfl) (by kernel_rfl) (by kernel_rfl) (fun _ _ _ h => h) (by rfl) ?hogb15 hHeld ?rogb15
              case hogb15 => (intro w' hSw; (try dsimp only at hSw); go_simp <;> with_reducible rfl)
              try simp only [Act.put, List.setIfInBounds_toArray, List.set_cons_zero, List.set_cons_succ]
              refine take_op (i := 5) (d := 43) (OP := Op.move (Operand.tmp 6)) (T := 70) (v := ?vogb16) rfl rfl rfl rfl (by kernel_rfl) (by kernel_rfl) (by kernel_rfl) (fun _ _ _ h => h) (by rfl) ?hogb16 hHeld ?rogb16
              case hogb16 => (intro w' hSw; (try dsimp only at hSw); go_simp <;> with_reducible rfl)
              try simp only [Act.put, List.setIfInBounds_toArray, List.set_cons_zero, List.set_cons_succ]
              refine take_op (i := 6) (d := 44) (OP := Op.move (Operand.tmp 7)) (T := 3) (v := ?vogb17) rfl rfl rfl rfl (by kernel_rfl) (by kernel_rfl) (by kernel_rfl) (fun _ _ _ h => h) (by rfl) ?hogb17 hHeld ?rogb17
              case hogb17 => (intro w' hSw; (try dsimp only at hSw); go_simp <;> with_reducible rfl)
              try simp only [Act.put, List.setIfInBounds_toArray, List.set_cons_zero, List.set_cons_succ]
              refine take_op (i := 7) (d := 45) (OP := Op.binOp BinOp.sub 3 (Operand.tmp 44) (Operand.const (Value.int IntKind.i64 1)) 3) (T := 3) (v := (.int .i64 (k2 : Nat))) rfl rfl rfl rfl (by kernel_rfl) (by kernel_rfl) (by kernel_rfl) (fun _ _ _ h => h) (by rfl) ?hogb18 hHeld ?rogb18
              case hogb18 => (intro w' hSw; exact exec_sub1 rfl rfl hn2b hx2.2)
              try simp only [Act.put, List.setIfInBounds_toArray, List.set_cons_zero, List.set_cons_succ]
              refine take_op (i := 8) (d := 46) (OP := Op.indexAddr 70 (Operand.tmp 43) (Operand.tmp 45)) (T := 0) (v := (.pointer (some ⟨g, i0 * 3 + k2 * 3, none⟩))) rfl rfl rfl rfl (by kernel_rfl) (by kernel_rfl) (by kernel_rfl) (fun _ _ _ h => h) (by rfl) ?hogb19 hHeld ?rogb19
              case hogb19 => (intro w' hSw; exact exec_index70 (k := k2) rfl rfl hx2.2)
              try simp only [Act.put, List.setIfInBounds_toArray, List.set_cons_zero, List.set_cons_succ]
              refine take_op (i := 9) (d := 47) (OP := Op.load 75 (Operand.tmp 46)) (T := 75) (v := ?vogb20) rfl rfl rfl rfl (by kernel_rfl) (by kernel_rfl) (by kernel_rfl) (fun _ _ _ h => h) (by rfl) ?hogb20 hHeld ?rogb20
              case hogb20 => (intro w' hSw; (try dsimp only at hSw); go_simp <;> with_reducible rfl)
              try simp only [Act.put, List.setIfInBounds_toArray, List.set_cons_zero, List.set_cons_succ]
              by_cases hxp' : x'.1 = p'.1
              · rw [decide_eq_true hxp'] at k85
                refine call_op (i := 10) (d := 48) (OP := Op.call { callee := Callee.value (Operand.tmp 38), args := #[Operand.tmp 42, Operand.tmp 47], argTypes := #[75, 75] }) (T := 4) (f := 85) (args := #[plV x', plV p']) rfl rfl rfl rfl (by kernel_rfl) (by rfl) (by go_simp) ?_
                refine k85.mono ?_
                rintro e y2 ⟨rfl, by2⟩
                have hb2 := hbd.trans (by2.mono hbd.size)
                refine ⟨_, rfl, ⟨⟨Ki.cell_stays hHeld.1.1 by2, Ki.cell_stays hHeld.1.2.1 by2, Ki.cell_stays hHeld.1.2.2 by2⟩, Ki.cell_stays hHeld.2.1 by2, Ki.cell_stays hHeld.2.2.1 by2, Ki.cell_stays hHeld.2.2.2 by2⟩, ?_⟩
                replace hHeld : (y2.cell? ⟨g, i0 * 3 + (k2 + 1) * 3, none⟩ = some (.slice x'.2.1 x'.1.1.length x'.2.2) ∧ y2.cell? ⟨g, i0 * 3 + (k2 + 1) * 3 + 1, none⟩ = some (.int .i64 x'.1.2.1) ∧ y2.cell? ⟨g, i0 * 3 + (k2 + 1) * 3 + 2, none⟩ = some (.string x'.1.2.2)) ∧ (y2.cell? ⟨g, i0 * 3 + k2 * 3, none⟩ = some (.slice p'.2.1 p'.1.1.length p'.2.2) ∧ y2.cell? ⟨g, i0 * 3 + k2 * 3 + 1, none⟩ = some (.int .i64 p'.1.2.1) ∧ y2.cell? ⟨g, i0 * 3 + k2 * 3 + 2, none⟩ = some (.string p'.1.2.2)) := ⟨⟨Ki.cell_stays hHeld.1.1 by2, Ki.cell_stays hHeld.1.2.1 by2, Ki.cell_stays hHeld.1.2.2 by2⟩, Ki.cell_stays hHeld.2.1 by2, Ki.cell_stays hHeld.2.2.1 by2, Ki.cell_stays hHeld.2.2.2 by2⟩
                try simp only [Act.put, List.setIfInBounds_toArray, List.set_cons_zero, List.set_cons_succ]
                refine take_op (i := 11) (d := 49) (OP := Op.unOp UnOp.not 4 (Operand.tmp 48)) (T := 4) (v := (.bool false)) rfl rfl rfl rfl (by kernel_rfl) (by kernel_rfl) (by kernel_rfl) (fun _ _ _ h => h) (by rfl) ?hogc21 hHeld ?rogc21
                case hogc21 => (intro w' hSw; (try dsimp only at hSw); go_simp <;> with_reducible rfl)
                try simp only [Act.put, List.setIfInBounds_toArray, List.set_cons_zero, List.set_cons_succ]
                refine wpAnyH_done (by kernel_rfl) ?_ _
                obtain ⟨m1, m2, m3, m4, mx, mp⟩ := HM.out
                have q := oncep_next L (i0 + k2) p' x' mp (by rw [show i0 + k2 + 1 = i0 + (k2 + 1) by omega]; exact mx)
                rw [show i0 + k2 + 1 = i0 + (k2 + 1) by omega] at q
                have o2 : Only (fun j => j = g) w y2 := HC.out.only.trans (Ki.below_only hb2) (fun _ _ e => e)
                have m4' := m4.below hb2
                have m3' : M.drop (i0 + (k2 + 1)) = L.drop (i0 + (k2 + 1)) := by
                  have := congrArg (List.drop 1) m3
                  rw [List.drop_drop, List.drop_drop, show i0 + (k2 + 1) - 1 + 1 = i0 + (k2 + 1) by omega] at this
                  exact this
                have HN3 : Hid (CkS w B g cap L (i0 + (k2 + 1 + 1)) kk y2) := hide ⟨⟨M, m1, by rw [m2, show i0 + (k2 + 1 + 1) = i0 + (k2 + 1) + 1 by omega, q.1 hxp'.symm], by rw [show i0 + (k2 + 1 + 1) - 1 = i0 + (k2 + 1) by omega]; exact m3', m4'⟩, o2, by omega⟩
                clear q o2 m1 m2 m3 m4 mx mp m4' m3' hb2 by2 hbd hHeld k85
                go_wp2
                go_roundw
                case rel => exact ⟨kk, k2 + 1, rfl, by go_num, by omega, HN3⟩
                case measure => simp [intOf]; omega
              · rw [decide_eq_false hxp'] at k85
                refine call_op (i := 10) (d := 48) (OP := Op.call { callee := Callee.value (Operand.tmp 38), args := #[Operand.tmp 42, Operand.tmp 47], argTypes := #[75, 75] }) (T := 4) (f := 85) (args := #[plV x', plV p']) rfl rfl rfl rfl (by kernel_rfl) (by rfl) (by go_simp) ?_
                refine k85.mono ?_
                rintro e y2 ⟨rfl, by2⟩
                have hb2 := hbd.trans (by2.mono hbd.size)
                refine ⟨_, rfl, ⟨⟨Ki.cell_stays hHeld.1.1 by2, Ki.cell_stays hHeld.1.2.1 by2, Ki.cell_stays hHeld.1.2.2 by2⟩, Ki.cell_stays hHeld.2.1 by2, Ki.cell_stays hHeld.2.2.1 by2, Ki.cell_stays hHeld.2.2.2 by2⟩, ?_⟩
                replace hHeld : (y2.cell? ⟨g, i0 * 3 + (k2 + 1) * 3, none⟩ = some (.slice x'.2.1 x'.1.1.length x'.2.2) ∧ y2.cell? ⟨g, i0 * 3 + (k2 + 1) * 3 + 1, none⟩ = some (.int .i64 x'.1.2.1) ∧ y2.cell? ⟨g, i0 * 3 + (k2 + 1) * 3 + 2, none⟩ = some (.string x'.1.2.2)) ∧ (y2.cell? ⟨g, i0 * 3 + k2 * 3, none⟩ = some (.slice p'.2.1 p'.1.1.length p'.2.2) ∧ y2.cell? ⟨g, i0 * 3 + k2 * 3 + 1, none⟩ = some (.int .i64 p'.1.2.1) ∧ y2.cell? ⟨g, i0 * 3 + k2 * 3 + 2, none⟩ = some (.string p'.1.2.2)) := ⟨⟨Ki.cell_stays hHeld.1.1 by2, Ki.cell_stays hHeld.1.2.1 by2, Ki.cell_stays hHeld.1.2.2 by2⟩, Ki.cell_stays hHeld.2.1 by2, Ki.cell_stays hHeld.2.2.1 by2, Ki.cell_stays hHeld.2.2.2 by2⟩
                try simp only [Act.put, List.setIfInBounds_toArray, List.set_cons_zero, List.set_cons_succ]
                refine take_op (i := 11) (d := 49) (OP := Op.unOp UnOp.not 4 (Operand.tmp 48)) (T := 4) (v := (.bool true)) rfl rfl rfl rfl (by kernel_rfl) (by kernel_rfl) (by kernel_rfl) (fun _ _ _ h => h) (by rfl) ?hogd22 hHeld ?rogd22
                case hogd22 => (intro w' hSw; (try dsimp only at hSw); go_simp <;> with_reducible rfl)
                try simp only [Act.put, List.setIfInBounds_toArray, List.set_cons_zero, List.set_cons_succ]
                refine wpAnyH_done (by kernel_rfl) ?_ _
                obtain ⟨m1, m2, m3, m4, mx, mp⟩ := HM.out
                have q := oncep_next L (i0 + k2) p' x' mp (by rw [show i0 + k2 + 1 = i0 + (k2 + 1) by omega]; exact mx)
                rw [show i0 + k2 + 1 = i0 + (k2 + 1) by omega] at q
                have o2 : Only (fun j => j = g) w y2 := HC.out.only.trans (Ki.below_only hb2) (fun _ _ e => e)
                have m4' := m4.below hb2
                have m3' : M.drop (i0 + (k2 + 1)) = L.drop (i0 + (k2 + 1)) := by
                  have := congrArg (List.drop 1) m3
                  rw [List.drop_drop, List.drop_drop, show i0 + (k2 + 1) - 1 + 1 = i0 + (k2 + 1) by omega] at this
                  exact this
                obtain ⟨s1, s2⟩ := m4'.set3 (k := kk) (by rw [m1, ← HN.out]; exact hkn) x'
                have hset : (M.set kk x').length = L.length := by rw [List.length_set]; exact m1
                obtain ⟨ww, hww⟩ : ∃ r, r = (((y2.setCell ⟨g, kk * 3, none⟩ (.slice x'.2.1 x'.1.1.length x'.2.2)).setCell ⟨g, kk * 3 + 1, none⟩ (.int .i64 x'.1.2.1)).setCell ⟨g, kk * 3 + 2, none⟩ (.string x'.1.2.2)) := ⟨_, rfl⟩
                rw [← hww] at s1 s2
                have HN3 : Hid (CkS w B g cap L (i0 + (k2 + 1 + 1)) (kk + 1) ww) := hide ⟨⟨M.set kk x', hset, by rw [show i0 + (k2 + 1 + 1) = i0 + (k2 + 1) + 1 by omega, q.2 (fun e => hxp' e.symm), ← m2]; exact take_set_snoc M kk x' (by rw [m1, ← HN.out]; exact hkn), by rw [show i0 + (k2 + 1 + 1) - 1 = i0 + (k2 + 1) by omega, drop_set_of_lt hkk]; exact m3', s1⟩, o2.trans s2 (fun _ _ e => e), by omega⟩
                obtain ⟨yk, hyk⟩ : ∃ r, M[kk]? = some r := ⟨_, List.getElem?_eq_getElem (by rw [m1, ← HN.out]; exact hkn)⟩
                obtain ⟨t0, t1, t2⟩ := m4'.cells3 hyk
                have f0 := m4'.frz (kk * 3)
                have f1 := m4'.frz (kk * 3 + 1)
                have f2 := m4'.frz (kk * 3 + 2)
                obtain ⟨⟨c0, c1, c2⟩, -⟩ := hHeld
                clear q o2 m1 m2 m3 m4 mx mp m4' m3' hb2 by2 hbd k85 s1 s2 hset hyk
                have HWW := hide hww
                clear hww
                go_upto_region 13 with fail
                rw [← HWW.out]
                go_wp2
                go_roundw
                case rel => exact ⟨kk + 1, k2 + 1, by go_num, by go_num, by omega, HN3⟩
                case measure => simp [intOf]; omega
            · have hi : i0 + (k2 + 1) = n := by have := HN2.out; omega
              rw [hi] at hM2 hkk
              have hLn : L.take n = L := List.take_of_length_le (by rw [HN.out]; exact Nat.le_refl _)
              rw [hLn] at hM2
              obtain ⟨wc, hcl, hOt, hoc⟩ := clear_pl hM4 (k := kk) (c := cap - kk) (by rw [hM1, ← HN.out]; exact hkk)
              rw [hM1, ← HN.out] at hcl
              rw [hM2] at hOt
              have hlen : (onceP none L).length = kk := by rw [← hM2, List.length_take, hM1, ← HN.out]; omega
              rw [hlen] at hOt
              have hs1 := fun W => slice_lo (g := g) (k := kk) (n := n) (cap := cap) hkk hnc W
              have hs2 := fun W => slice_hi (g := g) (k := kk) (n := n) (cap := cap) (by omega) hnc W
              have HF := hide (And.intro hOt (And.intro (HC.out.only.trans hoc (fun _ _ e => e)) hlen))
              clear hM1 hM2 hM3 hM4 hOt hoc hlen hi
              go_wp2
              go_ret
              obtain ⟨f1, f2, f3⟩ := HF.out
              refine ⟨_, rfl, ⟨?_, fun y hy => ?_, fun y hy => ?_⟩, f2⟩
              · exact f1
              · exact H.out.1.away f2 y (oncep_sub L none y hy)
              · exact H.out.2.1 y (oncep_sub L none y hy)
        · have hd : decide (x.1 = p.1) = false := decide_eq_false hxp
          rw [hd]
          go_wp2
          go_roundw
          case rel => exact ⟨k + 1, by go_num, by omega, hide (by
            obtain ⟨-, q⟩ := oncep_next L k p x HX.out.2 HX.out.1
            rw [q (fun e => hxp e.symm), HT.out, List.take_add_one (i := k + 1), HX.out.1]
            rfl), HB1⟩
          case measure => simp [intOf]; omega
      · go_wp2
        go_ret
        have e : onceP none L = L := by
          have := HT.out
          rw [List.take_of_length_le (by rw [← HN.out]; omega)] at this
          exact this
        rw [e]
        exact ⟨_, rfl, by rw [HN.out]; exact H.out.1.below HB.out, Ki.below_only HB.out⟩
end Go.Proofs.YtpepgoelnagoaaaGreatDoor
namespace Go.Proofs.YtpepgoelnagoaaaGreatDoor
open Go.RowKit Go.Shelf Go.Sort
set_option linter.unusedSimpArgs false
set_option linter.unusedVariables false

theorem flatK_P {α : Type} [Inhabited α] (f : α → Px) (l : List α) : (flatK (fun x => encP (f x)) 3 l.toArray).toList = flatP (l.map f) := by
  apply List.ext_getElem?
  intro t
  by_cases ht : t < l.length * 3
  · have hk : t / 3 < l.length := by omega
    have h1 := flatP_get (l.map f) (t / 3) (t % 3) (f l[t / 3]) (by rw [List.getElem?_map, List.getElem?_eq_getElem hk]; rfl) (by omega)
    rw [show t / 3 * 3 + t % 3 = t by omega] at h1
    rw [h1]
    have h2 := get_flatK (fun x => encP (f x)) 3 l.toArray t (by simpa using ht)
    have h3 : t < (flatK (fun x => encP (f x)) 3 l.toArray).toList.length := by simpa using ht
    rw [List.getElem?_eq_getElem h3]
    rw [getElem!_pos _ t (by simpa using ht)] at h2
    rw [Array.getElem_toList, h2]
    have h4 : l.toArray[t / 3]! = l[t / 3] := by rw [getElem!_pos _ _ (by simpa using hk)]; simp
    rw [h4]
    have h5 : t % 3 < (encP (f l[t / 3])).length := by simp [encP]; omega
    rw [List.getElem?_eq_getElem h5, getElem!_pos (encP (f l[t / 3])) (t % 3) h5]
  · rw [List.getElem?_eq_none (by simp; omega), List.getElem?_eq_none (by rw [flatP_len, List.length_map]; omega)]

theorem sort_only {α : Type} [Inhabited α] (enc : α → List Value) (W : World) (g n : Nat) (d : Array α) (os : Array Obj) : Only (fun j => j = g) W (sortWorldK enc 3 W g 0 n d os) := by
  have hheap : (sortWorldK enc 3 W g 0 n d os).heap = W.heap.modify g (onCells (putCells id 0 (flatK enc 3 d))) ++ os := rfl
  refine ⟨rfl, rfl, rfl, ?_, ?_⟩
  · rw [hheap]; simp
  · intro k hk hd
    rw [hheap, Array.getElem?_append_left (by simpa using hk), Array.getElem?_modify, if_neg (fun e => hd e.symm)]

/-- A world behind the sort. -/
theorem Opl.sorted {α : Type} [Inhabited α] (f : α → Px) {W : World} {B g cap : Nat} {L : List Px} {L' : List α} (h : Opl W B (.slice (some ⟨g, 0, none⟩) L.length cap) L) (hL : L'.length = L.length) (n : Nat) (os : Array Obj) : Opl (sortWorldK (fun x => encP (f x)) 3 W g 0 n L'.toArray os) B (.slice (some ⟨g, 0, none⟩) L.length cap) (L'.map f) := by
  have hlt := (World.ownsRow.lt h g rfl).2
  rcases h.2 with ⟨h1, _⟩ | ⟨g', cap', cur, e, hb, hg, hnc, hcm, hcs, htk⟩
  · cases h1
  · injection e with e1 e2 e3
    injection e1 with e1
    injection e1 with e1 _ _
    subst e1 e3
    have hF : (flatK (fun x => encP (f x)) 3 L'.toArray).size = L.length * 3 := by simp [hL]
    have hheap : (sortWorldK (fun x => encP (f x)) 3 W g 0 n L'.toArray os).heap = W.heap.modify g (onCells (putCells id 0 (flatK (fun x => encP (f x)) 3 L'.toArray))) ++ os := rfl
    refine ⟨by rw [flatP_len], .inr ⟨g, cap, putCells id 0 (flatK (fun x => encP (f x)) 3 L'.toArray) cur, by rw [List.length_map, hL], hb, ?_, by rw [List.length_map, hL]; exact hnc, hcm, by simp [putCells, hcs], ?_⟩⟩
    · rw [hheap, Array.getElem?_append_left (by simpa using hlt), Array.getElem?_modify, if_pos rfl, hg]; rfl
    · rw [← flatK_P, List.length_map, hL]
      apply List.ext_getElem?
      intro j
      by_cases hj : j < L.length * 3
      · have hjc : j < cur.size := by rw [hcs]; have := Nat.mul_le_mul_right 3 hnc; omega
        rw [List.getElem?_take, if_pos hj]
        have h3 : j < (flatK (fun x => encP (f x)) 3 L'.toArray).toList.length := by rw [Array.length_toList, hF]; exact hj
        rw [List.getElem?_eq_getElem h3, Array.getElem?_toList]
        rw [Array.getElem?_eq_getElem (by simpa [putCells] using hjc)]
        simp only [putCells, Array.getElem_mapIdx, Nat.zero_le, true_and, Nat.zero_add, hF, hj, if_true, Nat.sub_zero, id]
        rw [getElem!_pos _ j (by rw [hF]; exact hj)]
        simp
      · rw [List.getElem?_take, if_neg hj, List.getElem?_eq_none (by rw [Array.length_toList, hF]; omega)]

theorem cfL_range (a b : Pl) : cfL a b = -1 ∨ cfL a b = 0 ∨ cfL a b = 1 := cl_range _ _ _ _ _ _
theorem cfL_anti (a b : Pl) : cfL a b = - cfL b a := cl_anti _ _ _ _ _ _
theorem cfL_le {a b c : Pl} (h1 : cfL a b ≤ 0) (h2 : cfL b c ≤ 0) : cfL a c ≤ 0 := cl_trans _ _ _ _ _ _ _ _ _ h1 h2
theorem ord_L : Ord cfL := by
  refine ⟨cfL_range, cfL_anti, fun a b h => cfL_eq.1 h, fun a b c h1 h2 => ?_⟩
  have h3 : cfL a c ≤ 0 := cfL_le (b := b) (by omega) (by omega)
  rcases cfL_range a c with h | h | h
  · exact h
  · have e := cfL_eq.1 h
    subst e
    have := cfL_anti a b
    omega
  · omega
theorem swo_P {α : Type} (f : α → Pl) : SWO (ltOf (fun x y : α => cfL (f x) (f y))) where
  irrefl x := by
    have := cfL_eq.2 (rfl : f x = f x)
    simp [ltOf, this]
  trans x y z h1 h2 := by
    simp only [ltOf, decide_eq_true_eq] at *
    have e1 : cfL (f x) (f y) = -1 := by have := cfL_range (f x) (f y); omega
    have e2 : cfL (f y) (f z) = -1 := by have := cfL_range (f y) (f z); omega
    have := ord_L.trans _ _ _ e1 e2
    omega
  ntrans x y z h1 h2 := by
    simp only [ltOf, decide_eq_false_iff_not] at *
    have a1 := cfL_anti (f x) (f y)
    have a2 := cfL_anti (f y) (f z)
    have a3 := cfL_anti (f x) (f z)
    have := cfL_le (a := f z) (b := f y) (c := f x) (by omega) (by omega)
    omega
theorem sub_list {α : Type} {p : α → Prop} : ∀ L : List α, (∀ x ∈ L, p x) → ∃ D : List {x // p x}, D.map Subtype.val = L
  | [], _ => ⟨[], rfl⟩
  | x :: t, h => by
    obtain ⟨D, hD⟩ := sub_list t (fun y hy => h y (List.mem_cons_of_mem _ hy))
    exact ⟨⟨x, h x (by simp)⟩ :: D, by rw [List.map_cons, hD]⟩

/-- What may be held against another while the row is sorted. -/
def SortP (W : World) (B g : Nat) (x : Px) : Prop := Os W B (.slice x.2.1 x.1.1.length x.2.2) x.1.1 ∧ x.1.1.length ≤ 1000000 ∧ ∀ k, (Value.slice x.2.1 x.1.1.length x.2.2).ownBlock = some k → ¬ k = g
instance (W : World) (B g : Nat) : Inhabited {x : Px // SortP W B g x} := ⟨⟨(([], 0, ⟨#[]⟩), none, 0), World.ownsRow_nil _ _ _ _, by simp, fun k hk => by cases hk⟩⟩
theorem SortP.rs {W W' : World} {B g : Nat} {x : Px} (h : SortP W B g x) (ho : Only (fun j => j = g) W W') : Rs W' x.2.1 x.1.1 := (h.1.only ho h.2.2).rsq

theorem sortPl_any {W : World} {B g cap : Nat} {L : List Px} (h : Pq W B (.slice (some ⟨g, 0, none⟩) L.length cap) L) (hl : L.length ≤ 100000) : Calls Tryz.prog 82 #[.slice (some ⟨g, 0, none⟩) L.length cap, .func (.func 83) #[] #[]] W fun e w' => e = .returned (.tuple #[]) ∧ Only (fun j => j = g) W w' ∧ ∃ L' : List Px, L'.Perm L ∧ L'.Pairwise (fun a b => cfL a.1 b.1 ≤ 0) ∧ Pq w' B (.slice (some ⟨g, 0, none⟩) L'.length cap) L' := by
  have hlt := (World.ownsRow.lt h.row g rfl).2
  obtain ⟨D, hD⟩ := sub_list (p := SortP W B g) L (fun x hx => ⟨h.path x hx, h.plen x hx, fun k hk hd => by
    rcases h.row.2 with ⟨e, -⟩ | ⟨g', cap', cur, e, -, hg, -⟩
    · cases e
    · injection e with e1 e2 e3
      injection e1 with e1
      injection e1 with e1 _ _
      subst e1
      rcases (h.path x hx).2 with ⟨e, -⟩ | ⟨g2, cap2, cur2, e, -, hg2, -⟩
      · rw [e] at hk; cases hk
      · rw [e] at hk
        simp only [Value.ownBlock, Option.some.injEq] at hk
        subst hk
        subst hd
        rw [hg] at hg2
        simp at hg2⟩)
  have hDl : D.length = L.length := by rw [← hD, List.length_map]
  have eg : ∀ args w, (callFunc 83 args).run Tryz.prog w = .ok (.enter 83 args) w := enters_of Tryz.func83 (by kernel_rfl) rfl
  have hc : CmpLays Tryz.prog 83 #[] (fun x : {x // SortP W B g x} => encP x.1) 3 (fun x y => cfL x.1.1 y.1.1) g 0 D.toArray.size W := fun m os dk _ x y =>
    cmpPlace_grow (c := x.1.2.2) (d := y.1.2.2) x.1.1.2.1 y.1.1.2.1 x.1.1.2.2 y.1.1.2.2 (x.2.rs (sort_only _ W g m dk os)) (y.2.rs (sort_only _ W g m dk os)) (by have := x.2.2.1; omega)
  have hH : HoldsK (fun x : {x // SortP W B g x} => encP x.1) 3 W g 0 D.toArray := by
    intro j hj
    have hj' : j < (flatP L).length := by rw [flatP_len, ← hDl]; simpa using hj
    have hv : (flatP L)[j]? = some ((flatK (fun x : {x // SortP W B g x} => encP x.1) 3 D.toArray)[j]!) := by
      rw [← hD, ← flatK_P Subtype.val, Array.getElem?_toList, Array.getElem?_eq_getElem hj, getElem!_pos _ j hj]
    exact ⟨h.row.rn j _ hv, h.row.frz _⟩
  have hs := AnyQ.slices_SortFunc Tryz.sortPlaces 3 Tryz.isAgg75 Tryz.sizeOf75 (fun x : {x // SortP W B g x} => encP x.1) (fun _ => rfl) (fun x v hv => by simp [encP] at hv; rcases hv with rfl | rfl | rfl <;> rfl) (fun x y => cfL x.1.1 y.1.1) (swo_P _) 83 #[] g 0 cap D.toArray W eg hc hH hlt (by simp; omega)
  simp only [List.size_toArray, hDl] at hs
  change Calls Tryz.prog 82 _ _ _ at hs
  refine hs.mono ?_
  rintro e w' ⟨he, d', n, os, hp, hso, rfl⟩
  refine ⟨he, sort_only _ _ _ _ _ _, d'.toList.map Subtype.val, ?_, ?_, ?_⟩
  · have h1 := hp.2.2
    have hz : d'.size = L.length := hp.1.trans (by simp [hDl])
    rw [show d'.extract 0 L.length = d' by rw [← hz]; simp, show D.toArray.extract 0 L.length = D.toArray by rw [← hDl]; simp] at h1
    have h2 := h1.map Subtype.val
    rw [show D.toArray.toList = D from rfl, hD] at h2
    exact h2
  · have hz : d'.size = L.length := hp.1.trans (by simp [hDl])
    rw [List.pairwise_map, List.pairwise_iff_getElem]
    intro i j hi hj hij
    have hi' : i < d'.size := by simpa using hi
    have hj' : j < d'.size := by simpa using hj
    have h1 := hso i j (Nat.zero_le _) hij (by omega)
    rw [getElem!_pos d' i hi', getElem!_pos d' j hj'] at h1
    simp only [ltOf, decide_eq_false_iff_not] at h1
    have h2 := cfL_anti (d'[i]).1.1 (d'[j]).1.1
    show cfL (d'.toList[i]).1.1 (d'.toList[j]).1.1 ≤ 0
    rw [Array.getElem_toList, Array.getElem_toList]
    omega
  · have hz : d'.toList.length = L.length := by rw [Array.length_toList]; exact hp.1.trans (by simp [hDl])
    have h1 := Opl.sorted (α := {x // SortP W B g x}) Subtype.val h.row hz n os
    refine ⟨?_, fun x hx => ?_, fun x hx => ?_⟩
    · rw [List.length_map, hz]; exact h1
    · obtain ⟨y, -, rfl⟩ := List.mem_map.1 hx
      exact y.2.1.only (sort_only _ _ _ _ _ _) y.2.2.2
    · obtain ⟨y, -, rfl⟩ := List.mem_map.1 hx
      exact y.2.2.1
end Go.Proofs.YtpepgoelnagoaaaGreatDoor
