/-
  journal: the law's has (98), part (94), single (95).
-/
import Derived.Test.YtkkpdgfllnbigaaGreatMg21
namespace Go.Proofs.YtkkpdgfllnbigaaGreat.Jo
open Go.RowKit Go.Shelf
set_option linter.unusedSimpArgs false
attribute [local go_sem] Oper.semAt_some

/-- Is it there? -/
def inB (x : El) (l : List El) : Bool := l.any fun y => decide (y = x)
theorem inB_iff (x : El) (l : List El) : inB x l = true ↔ x ∈ l := by
  unfold inB; rw [List.any_eq_true]
  exact ⟨fun ⟨y, hy, e⟩ => by rw [← of_decide_eq_true e]; exact hy, fun h => ⟨x, h, decide_eq_true rfl⟩⟩
set_option maxHeartbeats 4000000 in
set_option maxRecDepth 100000 in
theorem has98 {w : World} {ao : Option Addr} {c : Nat} {l : List El} (x : El) (h : Re w ao l) (hl : l.length ≤ 1000000) : Calls Tryz.prog 98 #[.slice ao l.length c, ev x] w fun e w' => e = .returned (.bool (inB x l)) ∧ Below w.heap.size w w' := by
  obtain ⟨N, hN⟩ : ∃ N, N = l.length := ⟨_, rfl⟩
  obtain ⟨R, hR⟩ : ∃ R, R = inB x l := ⟨_, rfl⟩
  rw [← hR]
  rw [← hN] at hl ⊢
  have hne := fun y W => run_eq77 y x W
  obtain ⟨⟨g, r, l0, n0, i0⟩, t0⟩ := x
  obtain ⟨w1, hw1⟩ : ∃ w1, w1 = w.alloc (.cells #[.int .i64 g, .int .i64 r, .string l0, .int .i64 n0, .int .i64 i0, .string t0] 53) := ⟨_, rfl⟩
  have b1 : Below w.heap.size w w1 := by rw [hw1]; exact (Below.refl _ w).alloc (Nat.le_refl _) _
  have m1 := heap_alloc_new w (.cells #[.int .i64 g, .int .i64 r, .string l0, .int .i64 n0, .int .i64 i0, .string t0] 53)
  rw [← hw1] at m1
  obtain ⟨Y, hY⟩ : ∃ Y, Y = w.heap.size := ⟨_, rfl⟩
  rw [← hY] at m1
  have hre := h.below b1
  obtain ⟨y0, y1, y2, y3, y4, y5⟩ := cells_of_enc m1
  have HC := hide (And.intro y0 (And.intro y1 (And.intro y2 (And.intro y3 (And.intro y4 (And.intro y5 hre))))))
  have HW := hide (And.intro hw1 (And.intro b1 (And.intro hY (And.intro hN hR))))
  clear h m1 b1 hre y0 y1 y2 y3 y4 y5 hw1 hY hN hR
  dsimp only [ev]
  go_enter Tryz.func98, Tryz.ntmps98
  go_upto_region 1 with fail
  rw [← HW.out.1, ← HW.out.2.2.1]
  go_wp2
  go_loopw [5] (fun iv wr => ∃ i : Nat, i ≤ N ∧ iv = .int .i64 i ∧ Hid (∀ j y, j < i → l[j]? = some y → y ≠ ((g, r, l0, n0, i0), t0)) ∧ ∃ q, wr = w1.drewN q) (fun iv _ => N - (intOf iv).toNat)
  case atStart => exact ⟨0, by omega, rfl, hide (fun j y hj => by omega), 0, rfl⟩
  case round =>
    obtain ⟨i, hi, rfl, hrest, q, hwr⟩ := hrel
    have up : ∀ a v, w1.cell? a = some v → wr.cell? a = some v := fun a v hv => by rw [hwr]; exact hv
    have y0 := up _ _ HC.out.1
    have y1 := up _ _ HC.out.2.1
    have y2 := up _ _ HC.out.2.2.1
    have y3 := up _ _ HC.out.2.2.2.1
    have y4 := up _ _ HC.out.2.2.2.2.1
    have y5 := up _ _ HC.out.2.2.2.2.2.1
    have hlr : Re wr ao l := by rw [hwr]; exact ⟨HC.out.2.2.2.2.2.2.1, HC.out.2.2.2.2.2.2.2⟩
    have HWR := hide hwr
    clear hwr up
    by_cases h1 : i < N
    · have z1 : (i : Int) < (N : Int) := by omega
      have d1 : decide (i < N) = true := by simpa using h1
      obtain ⟨y, hy⟩ : ∃ y, l[i]? = some y := ⟨_, List.getElem?_eq_getElem (by rw [← HW.out.2.2.2.1]; exact h1)⟩
      obtain ⟨ab, off, rfl, q0, q1, q2, q3, q4, q5⟩ := hlr.cells hy
      have hne1 := fun W => hne y W
      have HX := hide hy
      clear hy hlr hne
      by_cases hxy : y = ((g, r, l0, n0, i0), t0)
      · have d2 : decide (y = ((g, r, l0, n0, i0), t0)) = true := by simpa using hxy
        rw [d2] at hne1
        have hd : R = true := by rw [HW.out.2.2.2.2]; exact (inB_iff _ _).2 (by rw [← hxy]; exact List.mem_of_getElem? HX.out)
        have HXY := hide hd
        clear hxy d2 hd
        obtain ⟨⟨g', r', l0', n0', i0'⟩, t0'⟩ := y
        dsimp only [ev] at q0 q1 q2 q3 q4 q5 hne1
        go_wp2
        go_quiet (fail)
        go_wp2
        go_ret
        exact ⟨by first | (rw [HXY.out]; rfl) | rw [HXY.out], by rw [HWR.out]; exact below_drw (below_drw HW.out.2.1 _) _⟩
      · have d2 : decide (y = ((g, r, l0, n0, i0), t0)) = false := by simpa using hxy
        rw [d2] at hne1
        have HXY := hide hxy
        clear hxy d2
        obtain ⟨⟨g', r', l0', n0', i0'⟩, t0'⟩ := y
        dsimp only [ev] at q0 q1 q2 q3 q4 q5 hne1
        go_wp2
        go_quiet (fail)
        go_wp2
        go_roundw
        case rel =>
          refine ⟨i + 1, by omega, by go_num, hide (fun j z hj hz => ?_), _, by rw [HWR.out, World.drewN_drewN]⟩
          by_cases hji : j = i
          · subst hji
            rw [HX.out] at hz
            cases hz
            exact HXY.out
          · exact hrest.out j z (by omega) hz
        case measure => simp [intOf]; omega
    · obtain rfl : i = N := by omega
      have d1 : decide (i < i) = false := by simp
      have hd : R = false := by
        rw [HW.out.2.2.2.2, Bool.eq_false_iff, Ne, inB_iff]
        intro hm
        obtain ⟨j, hj, e2⟩ := List.getElem_of_mem hm
        exact hrest.out j _ (by rw [HW.out.2.2.2.1]; exact hj) (List.getElem?_eq_getElem hj) e2
      have HD := hide hd
      clear hd
      go_wp2
      go_ret
      exact ⟨by first | (rw [HD.out]; rfl) | rw [HD.out], by rw [HWR.out]; exact below_drw HW.out.2.1 _⟩
/-- Are all there? -/
def subB (a b : List El) : Bool := a.all fun y => inB y b
theorem subB_iff (a b : List El) : subB a b = true ↔ ∀ y ∈ a, y ∈ b := by unfold subB; rw [List.all_eq_true]; simp only [inB_iff]
set_option maxHeartbeats 4000000 in
set_option maxRecDepth 100000 in
theorem part94 {w : World} {ao bo : Option Addr} {c d : Nat} {a b : List El} (h : Re w ao a) (k : Re w bo b) (hl : a.length ≤ 1000000) (hk : b.length ≤ 1000000) : Calls Tryz.prog 94 #[.slice ao a.length c, .slice bo b.length d] w fun e w' => e = .returned (.bool (subB a b)) ∧ Below w.heap.size w w' := by
  have hhs : ∀ (x : El) W, Below w.heap.size w W → Calls Tryz.prog 98 #[.slice bo b.length d, ev x] W fun e w' => e = .returned (.bool (inB x b)) ∧ Below W.heap.size W w' := fun x W hW => has98 x (k.below hW) hk
  obtain ⟨N, hN⟩ : ∃ N, N = a.length := ⟨_, rfl⟩
  obtain ⟨M, hM⟩ : ∃ N, N = b.length := ⟨_, rfl⟩
  obtain ⟨R, hR⟩ : ∃ R, R = subB a b := ⟨_, rfl⟩
  rw [← hR]
  rw [← hM] at hhs ⊢
  rw [← hN] at hl ⊢
  have H := hide (And.intro hN (And.intro h hR))
  clear hN hM hR h k hk
  go_enter Tryz.func94, Tryz.ntmps94
  go_wp2
  go_loopw [5] (fun iv wr => ∃ i : Nat, i ≤ N ∧ iv = .int .i64 i ∧ Hid (∀ j y, j < i → a[j]? = some y → y ∈ b) ∧ Hid (Below w.heap.size w wr)) (fun iv _ => N - (intOf iv).toNat)
  case atStart => exact ⟨0, by omega, rfl, hide (fun j y hj => by omega), hide (Below.refl _ _)⟩
  case round =>
    obtain ⟨i, hi, rfl, hrest, HB⟩ := hrel
    by_cases h1 : i < N
    · have z1 : (i : Int) < (N : Int) := by omega
      have d1 : decide (i < N) = true := by simpa using h1
      obtain ⟨y, hy⟩ : ∃ y, a[i]? = some y := ⟨_, List.getElem?_eq_getElem (by rw [← H.out.1]; exact h1)⟩
      obtain ⟨ab, off, hao, q0, q1, q2, q3, q4, q5⟩ := (H.out.2.1.below HB.out).cells hy
      have hh := hhs y wr HB.out
      have HX := hide hy
      have HAO := hide hao
      subst hao
      obtain ⟨V, hV⟩ : ∃ q, q = inB y b := ⟨_, rfl⟩
      rw [← hV] at hh
      have HV := hide hV
      clear hy hV hhs
      obtain ⟨⟨g, r, l0, n0, i0⟩, t0⟩ := y
      dsimp only [ev] at q0 q1 q2 q3 q4 q5 hh
      cases V with
      | false =>
        have hd : R = false := by
          rw [H.out.2.2, Bool.eq_false_iff, Ne, subB_iff]
          intro hc
          have := hc _ (List.mem_of_getElem? HX.out)
          have h2 := HV.out.symm
          rw [(inB_iff _ _).2 this] at h2
          cases h2
        have HD := hide hd
        clear hd
        go_wp2_with (go_at_call 98; refine hh.mono ?_; rintro e w2 ⟨rfl, b2⟩; have HB2 := hide (HB.out.trans (b2.mono HB.out.size)); clear b2; dsimp only)
        go_ret
        exact ⟨by first | (rw [HD.out]; rfl) | rw [HD.out], HB2.out⟩
      | true =>
        go_wp2_with (go_at_call 98; refine hh.mono ?_; rintro e w2 ⟨rfl, b2⟩; have HB2 := hide (HB.out.trans (b2.mono HB.out.size)); clear b2; dsimp only)
        go_roundw
        case rel =>
          refine ⟨i + 1, by omega, by go_num, hide (fun j z hj hz => ?_), HB2⟩
          by_cases hji : j = i
          · subst hji
            rw [HX.out] at hz
            cases hz
            exact (inB_iff _ _).1 HV.out.symm
          · exact hrest.out j z (by omega) hz
        case measure => simp [intOf]; omega
    · obtain rfl : i = N := by omega
      have d1 : decide (i < i) = false := by simp
      have hd : R = true := by
        rw [H.out.2.2, subB_iff]
        intro y hm
        obtain ⟨j, hj, e2⟩ := List.getElem_of_mem hm
        exact hrest.out j _ (by rw [H.out.1]; exact hj) (by rw [List.getElem?_eq_getElem hj, e2])
      have HD := hide hd
      clear hd
      go_wp2
      go_ret
      exact ⟨by first | (rw [HD.out]; rfl) | rw [HD.out], HB.out⟩
/-- Has each stamp one text in both? -/
def sglB (a b : List El) : Bool := a.all fun x => b.all fun y => !(decide (x.1 = y.1) && !decide (x.2 = y.2))
theorem sglB_iff (a b : List El) : sglB a b = true ↔ ∀ x ∈ a, ∀ y ∈ b, x.1 = y.1 → x.2 = y.2 := by
  unfold sglB
  rw [List.all_eq_true]
  constructor
  · intro h x hx y hy e
    have := List.all_eq_true.1 (h x hx) y hy
    simp [e] at this
    exact this
  · intro h x hx
    rw [List.all_eq_true]
    intro y hy
    by_cases e : x.1 = y.1
    · simp [e, h x hx y hy e]
    · simp [e]
theorem exec_eq43 {ev' : Operand → Value} {x y : Operand} {T : TypeId} {w : World} {p q : St} {B : Bool} (hx : ev' x = svT p) (hy : ev' y = svT q) (hB : decide (p = q) = B) : (execOp ev' { dst := none, op := .binOp .eql 43 x y 43, type := T, pos := "", after := #[], guard := none }).run Tryz.prog w = .ok (.value (.bool B)) w := by
  have h := fun W => run_eq52' p q W
  rw [hB] at h
  obtain ⟨g, r, l, n, i⟩ := p
  obtain ⟨g', r', l', n', i'⟩ := q
  unfold execOp
  simp only [hx, hy]
  dsimp only [svT, sv] at h ⊢
  go_simp
set_option maxHeartbeats 8000000 in
set_option maxRecDepth 100000 in
theorem single95 {w : World} {ao bo : Option Addr} {c d : Nat} {a b : List El} (h : Re w ao a) (k : Re w bo b) (hl : a.length ≤ 100000) (hk : b.length ≤ 100000) : Calls Tryz.prog 95 #[.slice ao a.length c, .slice bo b.length d] w fun e w' => e = .returned (.bool (sglB a b)) ∧ Below w.heap.size w w' := by
  obtain ⟨N, hN⟩ : ∃ N, N = a.length := ⟨_, rfl⟩
  obtain ⟨M, hM⟩ : ∃ N, N = b.length := ⟨_, rfl⟩
  obtain ⟨R, hR⟩ : ∃ R, R = sglB a b := ⟨_, rfl⟩
  rw [← hR]
  rw [← hM] at hk ⊢
  rw [← hN] at hl ⊢
  have H := hide (And.intro hN (And.intro h (And.intro hM (And.intro k hR))))
  clear hN hM hR h k
  go_enter Tryz.func95, Tryz.ntmps95
  go_wp2
  go_loopw [5] (fun iv wr => ∃ i : Nat, i ≤ N ∧ iv = .int .i64 i ∧ Hid (∀ j x, j < i → a[j]? = some x → ∀ y ∈ b, x.1 = y.1 → x.2 = y.2) ∧ Hid (Below w.heap.size w wr)) (fun iv _ => N - (intOf iv).toNat)
  case atStart => exact ⟨0, by omega, rfl, hide (fun j y hj => by omega), hide (Below.refl _ _)⟩
  case round =>
    obtain ⟨i, hi, rfl, hrest, HB⟩ := hrel
    by_cases h1 : i < N
    · have z1 : (i : Int) < (N : Int) := by omega
      have d1 : decide (i < N) = true := by simpa using h1
      obtain ⟨x, hx⟩ : ∃ y, a[i]? = some y := ⟨_, List.getElem?_eq_getElem (by rw [← H.out.1]; exact h1)⟩
      have HX := hide hx
      clear hx
      go_wp2
      go_loopw [6] (fun kv wq => ∃ k : Nat, k ≤ M ∧ kv = .int .i64 k ∧ Hid (∀ j y, j < k → b[j]? = some y → x.1 = y.1 → x.2 = y.2) ∧ Hid (Below w.heap.size w wq)) (fun kv _ => M - (intOf kv).toNat)
      case atStart => exact ⟨0, by omega, rfl, hide (fun j y hj => by omega), HB⟩
      case round =>
        obtain ⟨k, hk2, rfl, HK, HBK⟩ := hrel
        obtain ⟨wq, hwq⟩ : ∃ q, wr = q := ⟨_, rfl⟩
        rw [hwq] at HBK ⊢
        clear hwq
        by_cases h2 : k < M
        · have z2 : (k : Int) < (M : Int) := by omega
          have d2 : decide (k < M) = true := by simpa using h2
          obtain ⟨y, hy⟩ : ∃ y, b[k]? = some y := ⟨_, List.getElem?_eq_getElem (by rw [← H.out.2.2.1]; exact h2)⟩
          obtain ⟨ba, oa, ha1, q0, q1, q2, q3, q4, q5⟩ := (H.out.2.1.below HBK.out).cells HX.out
          obtain ⟨bb, ob, ha2, s0, s1, s2, s3, s4, s5⟩ := (H.out.2.2.2.1.below HBK.out).cells hy
          have HY := hide hy
          clear hy
          subst ha1 ha2
          by_cases hse : x.1 = y.1
          · have heq : decide (x.1 = y.1) = true := decide_eq_true hse
            by_cases hte : x.2 = y.2
            · have HS := hide hte
              have hxy : (x.2.toList == y.2.toList) = true := by rw [hte]; simp
              have hstep : ∀ j z, j < k + 1 → b[j]? = some z → x.1 = z.1 → x.2 = z.2 := fun j z hj hz e => by
                by_cases hjk : j = k
                · subst hjk
                  rw [HY.out] at hz
                  cases hz
                  exact hte
                · exact HK.out j z (by omega) hz e
              have HST := hide hstep
              clear hse hte hstep
              obtain ⟨⟨g, r, l0, n0, i0⟩, t0⟩ := x
              obtain ⟨⟨g1, r1, l1, n1, i1⟩, t1⟩ := y
              dsimp only [svT, sv] at q0 q1 q2 q3 q4 q5 s0 s1 s2 s3 s4 s5 heq hxy
              go_upto_region 7 with fail
              refine wp_region_held_drew (S := fun w' => w'.cell? ⟨ba, oa + i * 6, none⟩ = some (.int .i64 g) ∧ w'.cell? ⟨ba, oa + i * 6 + 1, none⟩ = some (.int .i64 r) ∧ w'.cell? ⟨ba, oa + i * 6 + 2, none⟩ = some (.string l0) ∧ w'.cell? ⟨ba, oa + i * 6 + 3, none⟩ = some (.int .i64 n0) ∧ w'.cell? ⟨ba, oa + i * 6 + 4, none⟩ = some (.int .i64 i0) ∧ w'.cell? ⟨ba, oa + i * 6 + 5, none⟩ = some (.string t0) ∧ w'.cell? ⟨bb, ob + k * 6, none⟩ = some (.int .i64 g1) ∧ w'.cell? ⟨bb, ob + k * 6 + 1, none⟩ = some (.int .i64 r1) ∧ w'.cell? ⟨bb, ob + k * 6 + 2, none⟩ = some (.string l1) ∧ w'.cell? ⟨bb, ob + k * 6 + 3, none⟩ = some (.int .i64 n1) ∧ w'.cell? ⟨bb, ob + k * 6 + 4, none⟩ = some (.int .i64 i1) ∧ w'.cell? ⟨bb, ob + k * 6 + 5, none⟩ = some (.string t1) ∧ Below wq.heap.size wq w') (by kernel_rfl) (by exact ⟨q0, q1, q2, q3, q4, q5, s0, s1, s2, s3, s4, s5, drew_below wq⟩) (fun hHeld => ?_)
              try dsimp only at hHeld
              refine take_op (i := 0) (d := 19) (OP := Op.move (Operand.tmp 0)) (T := 22) (v := ?v1) rfl rfl rfl rfl (by kernel_rfl) (by kernel_rfl) (by kernel_rfl) (fun _ _ _ h => h) (by rfl) ?h1 hHeld ?r1
              case h1 => (intro w' hSw; (try dsimp only at hSw); go_simp <;> with_reducible rfl)
              try simp only [Act.put, sI, sZ, sS]
              refine take_op (i := 1) (d := 20) (OP := Op.move (Operand.tmp 5)) (T := 3) (v := ?v2) rfl rfl rfl rfl (by kernel_rfl) (by kernel_rfl) (by kernel_rfl) (fun _ _ _ h => h) (by rfl) ?h2 hHeld ?r2
              case h2 => (intro w' hSw; (try dsimp only at hSw); go_simp <;> with_reducible rfl)
              try simp only [Act.put, sI, sZ, sS]
              refine take_op (i := 2) (d := 21) (OP := Op.indexAddr 22 (Operand.tmp 19) (Operand.tmp 20)) (T := 0) (v := ?v3) rfl rfl rfl rfl (by kernel_rfl) (by kernel_rfl) (by kernel_rfl) (fun _ _ _ h => h) (by rfl) ?h3 hHeld ?r3
              case h3 => (intro w' hSw; (try dsimp only at hSw); go_simp <;> with_reducible rfl)
              try simp only [Act.put, sI, sZ, sS]
              refine take_op (i := 3) (d := 22) (OP := Op.fieldAddr 53 (Operand.tmp 21) 0) (T := 0) (v := ?v4) rfl rfl rfl rfl (by kernel_rfl) (by kernel_rfl) (by kernel_rfl) (fun _ _ _ h => h) (by rfl) ?h4 hHeld ?r4
              case h4 => (intro w' hSw; (try dsimp only at hSw); go_simp <;> with_reducible rfl)
              try simp only [Act.put, sI, sZ, sS]
              refine take_op (i := 4) (d := 23) (OP := Op.load 43 (Operand.tmp 22)) (T := 43) (v := ?v5) rfl rfl rfl rfl (by kernel_rfl) (by kernel_rfl) (by kernel_rfl) (fun _ _ _ h => h) (by rfl) ?h5 hHeld ?r5
              case h5 => (intro w' hSw; (try dsimp only at hSw); go_simp <;> with_reducible rfl)
              try simp only [Act.put, sI, sZ, sS]
              refine take_op (i := 5) (d := 24) (OP := Op.move (Operand.tmp 1)) (T := 22) (v := ?v6) rfl rfl rfl rfl (by kernel_rfl) (by kernel_rfl) (by kernel_rfl) (fun _ _ _ h => h) (by rfl) ?h6 hHeld ?r6
              case h6 => (intro w' hSw; (try dsimp only at hSw); go_simp <;> with_reducible rfl)
              try simp only [Act.put, sI, sZ, sS]
              refine take_op (i := 6) (d := 25) (OP := Op.move (Operand.tmp 6)) (T := 3) (v := ?v7) rfl rfl rfl rfl (by kernel_rfl) (by kernel_rfl) (by kernel_rfl) (fun _ _ _ h => h) (by rfl) ?h7 hHeld ?r7
              case h7 => (intro w' hSw; (try dsimp only at hSw); go_simp <;> with_reducible rfl)
              try simp only [Act.put, sI, sZ, sS]
              refine take_op (i := 7) (d := 26) (OP := Op.indexAddr 22 (Operand.tmp 24) (Operand.tmp 25)) (T := 0) (v := ?v8) rfl rfl rfl rfl (by kernel_rfl) (by kernel_rfl) (by kernel_rfl) (fun _ _ _ h => h) (by rfl) ?h8 hHeld ?r8
              case h8 => (intro w' hSw; (try dsimp only at hSw); go_simp <;> with_reducible rfl)
              try simp only [Act.put, sI, sZ, sS]
              refine take_op (i := 8) (d := 27) (OP := Op.fieldAddr 53 (Operand.tmp 26) 0) (T := 0) (v := ?v9) rfl rfl rfl rfl (by kernel_rfl) (by kernel_rfl) (by kernel_rfl) (fun _ _ _ h => h) (by rfl) ?h9 hHeld ?r9
              case h9 => (intro w' hSw; (try dsimp only at hSw); go_simp <;> with_reducible rfl)
              try simp only [Act.put, sI, sZ, sS]
              refine take_op (i := 9) (d := 28) (OP := Op.load 43 (Operand.tmp 27)) (T := 43) (v := ?v10) rfl rfl rfl rfl (by kernel_rfl) (by kernel_rfl) (by kernel_rfl) (fun _ _ _ h => h) (by rfl) ?h10 hHeld ?r10
              case h10 => (intro w' hSw; (try dsimp only at hSw); go_simp <;> with_reducible rfl)
              try simp only [Act.put, sI, sZ, sS]
              refine take_op (i := 10) (d := 29) (OP := Op.binOp BinOp.eql 43 (Operand.tmp 23) (Operand.tmp 28) 43) (T := 4) (v := .bool true) rfl rfl rfl rfl (by kernel_rfl) (by kernel_rfl) (by kernel_rfl) (fun _ _ _ h => h) (by rfl) ?h11 hHeld ?r11
              case h11 => (intro w' hSw; exact exec_eq43 (p := (g, r, l0, n0, i0)) (q := (g1, r1, l1, n1, i1)) rfl rfl heq)
              try simp only [Act.put, sI, sZ, sS]
              refine take_op (i := 11) (d := 30) (OP := Op.move (Operand.tmp 29)) (T := 4) (v := ?v12) rfl rfl rfl rfl (by kernel_rfl) (by kernel_rfl) (by kernel_rfl) (fun _ _ _ h => h) (by rfl) ?h12 hHeld ?r12
              case h12 => (intro w' hSw; (try dsimp only at hSw); go_simp <;> with_reducible rfl)
              try simp only [Act.put, sI, sZ, sS]
              refine take_op (i := 12) (d := 31) (OP := Op.move (Operand.tmp 0)) (T := 22) (v := ?v13) rfl rfl rfl rfl (by kernel_rfl) (by kernel_rfl) (by kernel_rfl) (fun _ _ _ h => h) (by rfl) ?h13 hHeld ?r13
              case h13 => (intro w' hSw; (try dsimp only at hSw); go_simp <;> with_reducible rfl)
              try simp only [Act.put, sI, sZ, sS]
              refine take_op (i := 13) (d := 32) (OP := Op.move (Operand.tmp 5)) (T := 3) (v := ?v14) rfl rfl rfl rfl (by kernel_rfl) (by kernel_rfl) (by kernel_rfl) (fun _ _ _ h => h) (by rfl) ?h14 hHeld ?r14
              case h14 => (intro w' hSw; (try dsimp only at hSw); go_simp <;> with_reducible rfl)
              try simp only [Act.put, sI, sZ, sS]
              refine take_op (i := 14) (d := 33) (OP := Op.indexAddr 22 (Operand.tmp 31) (Operand.tmp 32)) (T := 0) (v := ?v15) rfl rfl rfl rfl (by kernel_rfl) (by kernel_rfl) (by kernel_rfl) (fun _ _ _ h => h) (by rfl) ?h15 hHeld ?r15
              case h15 => (intro w' hSw; (try dsimp only at hSw); go_simp <;> with_reducible rfl)
              try simp only [Act.put, sI, sZ, sS]
              refine take_op (i := 15) (d := 34) (OP := Op.fieldAddr 53 (Operand.tmp 33) 1) (T := 0) (v := ?v16) rfl rfl rfl rfl (by kernel_rfl) (by kernel_rfl) (by kernel_rfl) (fun _ _ _ h => h) (by rfl) ?h16 hHeld ?r16
              case h16 => (intro w' hSw; (try dsimp only at hSw); go_simp <;> with_reducible rfl)
              try simp only [Act.put, sI, sZ, sS]
              refine take_op (i := 16) (d := 35) (OP := Op.load 9 (Operand.tmp 34)) (T := 9) (v := ?v17) rfl rfl rfl rfl (by kernel_rfl) (by kernel_rfl) (by kernel_rfl) (fun _ _ _ h => h) (by rfl) ?h17 hHeld ?r17
              case h17 => (intro w' hSw; (try dsimp only at hSw); go_simp <;> with_reducible rfl)
              try simp only [Act.put, sI, sZ, sS]
              refine take_op (i := 17) (d := 36) (OP := Op.move (Operand.tmp 1)) (T := 22) (v := ?v18) rfl rfl rfl rfl (by kernel_rfl) (by kernel_rfl) (by kernel_rfl) (fun _ _ _ h => h) (by rfl) ?h18 hHeld ?r18
              case h18 => (intro w' hSw; (try dsimp only at hSw); go_simp <;> with_reducible rfl)
              try simp only [Act.put, sI, sZ, sS]
              refine take_op (i := 18) (d := 37) (OP := Op.move (Operand.tmp 6)) (T := 3) (v := ?v19) rfl rfl rfl rfl (by kernel_rfl) (by kernel_rfl) (by kernel_rfl) (fun _ _ _ h => h) (by rfl) ?h19 hHeld ?r19
              case h19 => (intro w' hSw; (try dsimp only at hSw); go_simp <;> with_reducible rfl)
              try simp only [Act.put, sI, sZ, sS]
              refine take_op (i := 19) (d := 38) (OP := Op.indexAddr 22 (Operand.tmp 36) (Operand.tmp 37)) (T := 0) (v := ?v20) rfl rfl rfl rfl (by kernel_rfl) (by kernel_rfl) (by kernel_rfl) (fun _ _ _ h => h) (by rfl) ?h20 hHeld ?r20
              case h20 => (intro w' hSw; (try dsimp only at hSw); go_simp <;> with_reducible rfl)
              try simp only [Act.put, sI, sZ, sS]
              refine take_op (i := 20) (d := 39) (OP := Op.fieldAddr 53 (Operand.tmp 38) 1) (T := 0) (v := ?v21) rfl rfl rfl rfl (by kernel_rfl) (by kernel_rfl) (by kernel_rfl) (fun _ _ _ h => h) (by rfl) ?h21 hHeld ?r21
              case h21 => (intro w' hSw; (try dsimp only at hSw); go_simp <;> with_reducible rfl)
              try simp only [Act.put, sI, sZ, sS]
              refine take_op (i := 21) (d := 40) (OP := Op.load 9 (Operand.tmp 39)) (T := 9) (v := ?v22) rfl rfl rfl rfl (by kernel_rfl) (by kernel_rfl) (by kernel_rfl) (fun _ _ _ h => h) (by rfl) ?h22 hHeld ?r22
              case h22 => (intro w' hSw; (try dsimp only at hSw); go_simp <;> with_reducible rfl)
              try simp only [Act.put, sI, sZ, sS]
              refine take_op (i := 22) (d := 41) (OP := Op.binOp BinOp.neq 9 (Operand.tmp 35) (Operand.tmp 40) 9) (T := 4) (v := .bool false) rfl rfl rfl rfl (by kernel_rfl) (by kernel_rfl) (by kernel_rfl) (fun _ _ _ h => h) (by rfl) ?h23 hHeld ?r23
              case h23 => (intro w' hSw; (try dsimp only at hSw); go_simp <;> (first | with_reducible rfl | (simp [hxy]; done) | (simp; done)))
              try simp only [Act.put, sI, sZ, sS]
              refine take_op (i := 23) (d := 42) (OP := Op.pick (Operand.tmp 30) (Operand.tmp 41) (Operand.const (Value.bool false))) (T := 4) (v := ?v24) rfl rfl rfl rfl (by kernel_rfl) (by kernel_rfl) (by kernel_rfl) (fun _ _ _ h => h) (by rfl) ?h24 hHeld ?r24
              case h24 => (intro w' hSw; (try dsimp only at hSw); go_simp <;> with_reducible rfl)
              try simp only [Act.put, sI, sZ, sS]
              refine wpAnyH_done (by kernel_rfl) ?_ _
              have HE := hide hHeld.2.2.2.2.2.2.2.2.2.2.2.2
              clear hHeld q0 q1 q2 q3 q4 q5 s0 s1 s2 s3 s4 s5 heq hxy
              go_wp2
              go_roundw
              case rel => exact ⟨k + 1, by omega, by go_num, HST, hide (HBK.out.trans (HE.out.mono HBK.out.size))⟩
              case measure => simp [intOf]; omega
            · have hxy : (x.2.toList == y.2.toList) = false := by
                rw [Bool.eq_false_iff]
                intro hc
                exact hte (bytes_same.1 hc)
              have hd : R = false := by
                rw [H.out.2.2.2.2, Bool.eq_false_iff, Ne, sglB_iff]
                intro hc
                exact hte (hc x (List.mem_of_getElem? HX.out) y (List.mem_of_getElem? HY.out) hse)
              have HD := hide hd
              clear hse hte hd
              obtain ⟨⟨g, r, l0, n0, i0⟩, t0⟩ := x
              obtain ⟨⟨g1, r1, l1, n1, i1⟩, t1⟩ := y
              dsimp only [svT, sv] at q0 q1 q2 q3 q4 q5 s0 s1 s2 s3 s4 s5 heq hxy
              go_upto_region 7 with fail
              refine wp_region_held_drew (S := fun w' => w'.cell? ⟨ba, oa + i * 6, none⟩ = some (.int .i64 g) ∧ w'.cell? ⟨ba, oa + i * 6 + 1, none⟩ = some (.int .i64 r) ∧ w'.cell? ⟨ba, oa + i * 6 + 2, none⟩ = some (.string l0) ∧ w'.cell? ⟨ba, oa + i * 6 + 3, none⟩ = some (.int .i64 n0) ∧ w'.cell? ⟨ba, oa + i * 6 + 4, none⟩ = some (.int .i64 i0) ∧ w'.cell? ⟨ba, oa + i * 6 + 5, none⟩ = some (.string t0) ∧ w'.cell? ⟨bb, ob + k * 6, none⟩ = some (.int .i64 g1) ∧ w'.cell? ⟨bb, ob + k * 6 + 1, none⟩ = some (.int .i64 r1) ∧ w'.cell? ⟨bb, ob + k * 6 + 2, none⟩ = some (.string l1) ∧ w'.cell? ⟨bb, ob + k * 6 + 3, none⟩ = some (.int .i64 n1) ∧ w'.cell? ⟨bb, ob + k * 6 + 4, none⟩ = some (.int .i64 i1) ∧ w'.cell? ⟨bb, ob + k * 6 + 5, none⟩ = some (.string t1) ∧ Below wq.heap.size wq w') (by kernel_rfl) (by exact ⟨q0, q1, q2, q3, q4, q5, s0, s1, s2, s3, s4, s5, drew_below wq⟩) (fun hHeld => ?_)
              try dsimp only at hHeld
              refine take_op (i := 0) (d := 19) (OP := Op.move (Operand.tmp 0)) (T := 22) (v := ?v25) rfl rfl rfl rfl (by kernel_rfl) (by kernel_rfl) (by kernel_rfl) (fun _ _ _ h => h) (by rfl) ?h25 hHeld ?r25
              case h25 => (intro w' hSw; (try dsimp only at hSw); go_simp <;> with_reducible rfl)
              try simp only [Act.put, sI, sZ, sS]
              refine take_op (i := 1) (d := 20) (OP := Op.move (Operand.tmp 5)) (T := 3) (v := ?v26) rfl rfl rfl rfl (by kernel_rfl) (by kernel_rfl) (by kernel_rfl) (fun _ _ _ h => h) (by rfl) ?h26 hHeld ?r26
              case h26 => (intro w' hSw; (try dsimp only at hSw); go_simp <;> with_reducible rfl)
              try simp only [Act.put, sI, sZ, sS]
              refine take_op (i := 2) (d := 21) (OP := Op.indexAddr 22 (Operand.tmp 19) (Operand.tmp 20)) (T := 0) (v := ?v27) rfl rfl rfl rfl (by kernel_rfl) (by kernel_rfl) (by kernel_rfl) (fun _ _ _ h => h) (by rfl) ?h27 hHeld ?r27
              case h27 => (intro w' hSw; (try dsimp only at hSw); go_simp <;> with_reducible rfl)
              try simp only [Act.put, sI, sZ, sS]
              refine take_op (i := 3) (d := 22) (OP := Op.fieldAddr 53 (Operand.tmp 21) 0) (T := 0) (v := ?v28) rfl rfl rfl rfl (by kernel_rfl) (by kernel_rfl) (by kernel_rfl) (fun _ _ _ h => h) (by rfl) ?h28 hHeld ?r28
              case h28 => (intro w' hSw; (try dsimp only at hSw); go_simp <;> with_reducible rfl)
              try simp only [Act.put, sI, sZ, sS]
              refine take_op (i := 4) (d := 23) (OP := Op.load 43 (Operand.tmp 22)) (T := 43) (v := ?v29) rfl rfl rfl rfl (by kernel_rfl) (by kernel_rfl) (by kernel_rfl) (fun _ _ _ h => h) (by rfl) ?h29 hHeld ?r29
              case h29 => (intro w' hSw; (try dsimp only at hSw); go_simp <;> with_reducible rfl)
              try simp only [Act.put, sI, sZ, sS]
              refine take_op (i := 5) (d := 24) (OP := Op.move (Operand.tmp 1)) (T := 22) (v := ?v30) rfl rfl rfl rfl (by kernel_rfl) (by kernel_rfl) (by kernel_rfl) (fun _ _ _ h => h) (by rfl) ?h30 hHeld ?r30
              case h30 => (intro w' hSw; (try dsimp only at hSw); go_simp <;> with_reducible rfl)
              try simp only [Act.put, sI, sZ, sS]
              refine take_op (i := 6) (d := 25) (OP := Op.move (Operand.tmp 6)) (T := 3) (v := ?v31) rfl rfl rfl rfl (by kernel_rfl) (by kernel_rfl) (by kernel_rfl) (fun _ _ _ h => h) (by rfl) ?h31 hHeld ?r31
              case h31 => (intro w' hSw; (try dsimp only at hSw); go_simp <;> with_reducible rfl)
              try simp only [Act.put, sI, sZ, sS]
              refine take_op (i := 7) (d := 26) (OP := Op.indexAddr 22 (Operand.tmp 24) (Operand.tmp 25)) (T := 0) (v := ?v32) rfl rfl rfl rfl (by kernel_rfl) (by kernel_rfl) (by kernel_rfl) (fun _ _ _ h => h) (by rfl) ?h32 hHeld ?r32
              case h32 => (intro w' hSw; (try dsimp only at hSw); go_simp <;> with_reducible rfl)
              try simp only [Act.put, sI, sZ, sS]
              refine take_op (i := 8) (d := 27) (OP := Op.fieldAddr 53 (Operand.tmp 26) 0) (T := 0) (v := ?v33) rfl rfl rfl rfl (by kernel_rfl) (by kernel_rfl) (by kernel_rfl) (fun _ _ _ h => h) (by rfl) ?h33 hHeld ?r33
              case h33 => (intro w' hSw; (try dsimp only at hSw); go_simp <;> with_reducible rfl)
              try simp only [Act.put, sI, sZ, sS]
              refine take_op (i := 9) (d := 28) (OP := Op.load 43 (Operand.tmp 27)) (T := 43) (v := ?v34) rfl rfl rfl rfl (by kernel_rfl) (by kernel_rfl) (by kernel_rfl) (fun _ _ _ h => h) (by rfl) ?h34 hHeld ?r34
              case h34 => (intro w' hSw; (try dsimp only at hSw); go_simp <;> with_reducible rfl)
              try simp only [Act.put, sI, sZ, sS]
              refine take_op (i := 10) (d := 29) (OP := Op.binOp BinOp.eql 43 (Operand.tmp 23) (Operand.tmp 28) 43) (T := 4) (v := .bool true) rfl rfl rfl rfl (by kernel_rfl) (by kernel_rfl) (by kernel_rfl) (fun _ _ _ h => h) (by rfl) ?h35 hHeld ?r35
              case h35 => (intro w' hSw; exact exec_eq43 (p := (g, r, l0, n0, i0)) (q := (g1, r1, l1, n1, i1)) rfl rfl heq)
              try simp only [Act.put, sI, sZ, sS]
              refine take_op (i := 11) (d := 30) (OP := Op.move (Operand.tmp 29)) (T := 4) (v := ?v36) rfl rfl rfl rfl (by kernel_rfl) (by kernel_rfl) (by kernel_rfl) (fun _ _ _ h => h) (by rfl) ?h36 hHeld ?r36
              case h36 => (intro w' hSw; (try dsimp only at hSw); go_simp <;> with_reducible rfl)
              try simp only [Act.put, sI, sZ, sS]
              refine take_op (i := 12) (d := 31) (OP := Op.move (Operand.tmp 0)) (T := 22) (v := ?v37) rfl rfl rfl rfl (by kernel_rfl) (by kernel_rfl) (by kernel_rfl) (fun _ _ _ h => h) (by rfl) ?h37 hHeld ?r37
              case h37 => (intro w' hSw; (try dsimp only at hSw); go_simp <;> with_reducible rfl)
              try simp only [Act.put, sI, sZ, sS]
              refine take_op (i := 13) (d := 32) (OP := Op.move (Operand.tmp 5)) (T := 3) (v := ?v38) rfl rfl rfl rfl (by kernel_rfl) (by kernel_rfl) (by kernel_rfl) (fun _ _ _ h => h) (by rfl) ?h38 hHeld ?r38
              case h38 => (intro w' hSw; (try dsimp only at hSw); go_simp <;> with_reducible rfl)
              try simp only [Act.put, sI, sZ, sS]
              refine take_op (i := 14) (d := 33) (OP := Op.indexAddr 22 (Operand.tmp 31) (Operand.tmp 32)) (T := 0) (v := ?v39) rfl rfl rfl rfl (by kernel_rfl) (by kernel_rfl) (by kernel_rfl) (fun _ _ _ h => h) (by rfl) ?h39 hHeld ?r39
              case h39 => (intro w' hSw; (try dsimp only at hSw); go_simp <;> with_reducible rfl)
              try simp only [Act.put, sI, sZ, sS]
              refine take_op (i := 15) (d := 34) (OP := Op.fieldAddr 53 (Operand.tmp 33) 1) (T := 0) (v := ?v40) rfl rfl rfl rfl (by kernel_rfl) (by kernel_rfl) (by kernel_rfl) (fun _ _ _ h => h) (by rfl) ?h40 hHeld ?r40
              case h40 => (intro w' hSw; (try dsimp only at hSw); go_simp <;> with_reducible rfl)
              try simp only [Act.put, sI, sZ, sS]
              refine take_op (i := 16) (d := 35) (OP := Op.load 9 (Operand.tmp 34)) (T := 9) (v := ?v41) rfl rfl rfl rfl (by kernel_rfl) (by kernel_rfl) (by kernel_rfl) (fun _ _ _ h => h) (by rfl) ?h41 hHeld ?r41
              case h41 => (intro w' hSw; (try dsimp only at hSw); go_simp <;> with_reducible rfl)
              try simp only [Act.put, sI, sZ, sS]
              refine take_op (i := 17) (d := 36) (OP := Op.move (Operand.tmp 1)) (T := 22) (v := ?v42) rfl rfl rfl rfl (by kernel_rfl) (by kernel_rfl) (by kernel_rfl) (fun _ _ _ h => h) (by rfl) ?h42 hHeld ?r42
              case h42 => (intro w' hSw; (try dsimp only at hSw); go_simp <;> with_reducible rfl)
              try simp only [Act.put, sI, sZ, sS]
              refine take_op (i := 18) (d := 37) (OP := Op.move (Operand.tmp 6)) (T := 3) (v := ?v43) rfl rfl rfl rfl (by kernel_rfl) (by kernel_rfl) (by kernel_rfl) (fun _ _ _ h => h) (by rfl) ?h43 hHeld ?r43
              case h43 => (intro w' hSw; (try dsimp only at hSw); go_simp <;> with_reducible rfl)
              try simp only [Act.put, sI, sZ, sS]
              refine take_op (i := 19) (d := 38) (OP := Op.indexAddr 22 (Operand.tmp 36) (Operand.tmp 37)) (T := 0) (v := ?v44) rfl rfl rfl rfl (by kernel_rfl) (by kernel_rfl) (by kernel_rfl) (fun _ _ _ h => h) (by rfl) ?h44 hHeld ?r44
              case h44 => (intro w' hSw; (try dsimp only at hSw); go_simp <;> with_reducible rfl)
              try simp only [Act.put, sI, sZ, sS]
              refine take_op (i := 20) (d := 39) (OP := Op.fieldAddr 53 (Operand.tmp 38) 1) (T := 0) (v := ?v45) rfl rfl rfl rfl (by kernel_rfl) (by kernel_rfl) (by kernel_rfl) (fun _ _ _ h => h) (by rfl) ?h45 hHeld ?r45
              case h45 => (intro w' hSw; (try dsimp only at hSw); go_simp <;> with_reducible rfl)
              try simp only [Act.put, sI, sZ, sS]
              refine take_op (i := 21) (d := 40) (OP := Op.load 9 (Operand.tmp 39)) (T := 9) (v := ?v46) rfl rfl rfl rfl (by kernel_rfl) (by kernel_rfl) (by kernel_rfl) (fun _ _ _ h => h) (by rfl) ?h46 hHeld ?r46
              case h46 => (intro w' hSw; (try dsimp only at hSw); go_simp <;> with_reducible rfl)
              try simp only [Act.put, sI, sZ, sS]
              refine take_op (i := 22) (d := 41) (OP := Op.binOp BinOp.neq 9 (Operand.tmp 35) (Operand.tmp 40) 9) (T := 4) (v := .bool true) rfl rfl rfl rfl (by kernel_rfl) (by kernel_rfl) (by kernel_rfl) (fun _ _ _ h => h) (by rfl) ?h47 hHeld ?r47
              case h47 => (intro w' hSw; (try dsimp only at hSw); go_simp <;> (first | with_reducible rfl | (simp [hxy]; done) | (simp; done)))
              try simp only [Act.put, sI, sZ, sS]
              refine take_op (i := 23) (d := 42) (OP := Op.pick (Operand.tmp 30) (Operand.tmp 41) (Operand.const (Value.bool false))) (T := 4) (v := ?v48) rfl rfl rfl rfl (by kernel_rfl) (by kernel_rfl) (by kernel_rfl) (fun _ _ _ h => h) (by rfl) ?h48 hHeld ?r48
              case h48 => (intro w' hSw; (try dsimp only at hSw); go_simp <;> with_reducible rfl)
              try simp only [Act.put, sI, sZ, sS]
              refine wpAnyH_done (by kernel_rfl) ?_ _
              have HE := hide hHeld.2.2.2.2.2.2.2.2.2.2.2.2
              clear hHeld q0 q1 q2 q3 q4 q5 s0 s1 s2 s3 s4 s5 heq hxy
              go_wp2
              go_ret
              exact ⟨by first | (rw [HD.out]; rfl) | rw [HD.out], HBK.out.trans (HE.out.mono HBK.out.size)⟩
          · have heq : decide (x.1 = y.1) = false := decide_eq_false hse
            have hstep : ∀ j z, j < k + 1 → b[j]? = some z → x.1 = z.1 → x.2 = z.2 := fun j z hj hz e => by
              by_cases hjk : j = k
              · subst hjk
                rw [HY.out] at hz
                cases hz
                exact absurd e hse
              · exact HK.out j z (by omega) hz e
            have HST := hide hstep
            clear hse hstep
            obtain ⟨⟨g, r, l0, n0, i0⟩, t0⟩ := x
            obtain ⟨⟨g1, r1, l1, n1, i1⟩, t1⟩ := y
            dsimp only [svT, sv] at q0 q1 q2 q3 q4 q5 s0 s1 s2 s3 s4 s5 heq
            go_upto_region 7 with fail
            refine wp_region_held_drew (S := fun w' => w'.cell? ⟨ba, oa + i * 6, none⟩ = some (.int .i64 g) ∧ w'.cell? ⟨ba, oa + i * 6 + 1, none⟩ = some (.int .i64 r) ∧ w'.cell? ⟨ba, oa + i * 6 + 2, none⟩ = some (.string l0) ∧ w'.cell? ⟨ba, oa + i * 6 + 3, none⟩ = some (.int .i64 n0) ∧ w'.cell? ⟨ba, oa + i * 6 + 4, none⟩ = some (.int .i64 i0) ∧ w'.cell? ⟨ba, oa + i * 6 + 5, none⟩ = some (.string t0) ∧ w'.cell? ⟨bb, ob + k * 6, none⟩ = some (.int .i64 g1) ∧ w'.cell? ⟨bb, ob + k * 6 + 1, none⟩ = some (.int .i64 r1) ∧ w'.cell? ⟨bb, ob + k * 6 + 2, none⟩ = some (.string l1) ∧ w'.cell? ⟨bb, ob + k * 6 + 3, none⟩ = some (.int .i64 n1) ∧ w'.cell? ⟨bb, ob + k * 6 + 4, none⟩ = some (.int .i64 i1) ∧ w'.cell? ⟨bb, ob + k * 6 + 5, none⟩ = some (.string t1) ∧ Below wq.heap.size wq w') (by kernel_rfl) (by exact ⟨q0, q1, q2, q3, q4, q5, s0, s1, s2, s3, s4, s5, drew_below wq⟩) (fun hHeld => ?_)
            try dsimp only at hHeld
            refine take_op (i := 0) (d := 19) (OP := Op.move (Operand.tmp 0)) (T := 22) (v := ?v49) rfl rfl rfl rfl (by kernel_rfl) (by kernel_rfl) (by kernel_rfl) (fun _ _ _ h => h) (by rfl) ?h49 hHeld ?r49
            case h49 => (intro w' hSw; (try dsimp only at hSw); go_simp <;> with_reducible rfl)
            try simp only [Act.put, sI, sZ, sS]
            refine take_op (i := 1) (d := 20) (OP := Op.move (Operand.tmp 5)) (T := 3) (v := ?v50) rfl rfl rfl rfl (by kernel_rfl) (by kernel_rfl) (by kernel_rfl) (fun _ _ _ h => h) (by rfl) ?h50 hHeld ?r50
            case h50 => (intro w' hSw; (try dsimp only at hSw); go_simp <;> with_reducible rfl)
            try simp only [Act.put, sI, sZ, sS]
            refine take_op (i := 2) (d := 21) (OP := Op.indexAddr 22 (Operand.tmp 19) (Operand.tmp 20)) (T := 0) (v := ?v51) rfl rfl rfl rfl (by kernel_rfl) (by kernel_rfl) (by kernel_rfl) (fun _ _ _ h => h) (by rfl) ?h51 hHeld ?r51
            case h51 => (intro w' hSw; (try dsimp only at hSw); go_simp <;> with_reducible rfl)
            try simp only [Act.put, sI, sZ, sS]
            refine take_op (i := 3) (d := 22) (OP := Op.fieldAddr 53 (Operand.tmp 21) 0) (T := 0) (v := ?v52) rfl rfl rfl rfl (by kernel_rfl) (by kernel_rfl) (by kernel_rfl) (fun _ _ _ h => h) (by rfl) ?h52 hHeld ?r52
            case h52 => (intro w' hSw; (try dsimp only at hSw); go_simp <;> with_reducible rfl)
            try simp only [Act.put, sI, sZ, sS]
            refine take_op (i := 4) (d := 23) (OP := Op.load 43 (Operand.tmp 22)) (T := 43) (v := ?v53) rfl rfl rfl rfl (by kernel_rfl) (by kernel_rfl) (by kernel_rfl) (fun _ _ _ h => h) (by rfl) ?h53 hHeld ?r53
            case h53 => (intro w' hSw; (try dsimp only at hSw); go_simp <;> with_reducible rfl)
            try simp only [Act.put, sI, sZ, sS]
            refine take_op (i := 5) (d := 24) (OP := Op.move (Operand.tmp 1)) (T := 22) (v := ?v54) rfl rfl rfl rfl (by kernel_rfl) (by kernel_rfl) (by kernel_rfl) (fun _ _ _ h => h) (by rfl) ?h54 hHeld ?r54
            case h54 => (intro w' hSw; (try dsimp only at hSw); go_simp <;> with_reducible rfl)
            try simp only [Act.put, sI, sZ, sS]
            refine take_op (i := 6) (d := 25) (OP := Op.move (Operand.tmp 6)) (T := 3) (v := ?v55) rfl rfl rfl rfl (by kernel_rfl) (by kernel_rfl) (by kernel_rfl) (fun _ _ _ h => h) (by rfl) ?h55 hHeld ?r55
            case h55 => (intro w' hSw; (try dsimp only at hSw); go_simp <;> with_reducible rfl)
            try simp only [Act.put, sI, sZ, sS]
            refine take_op (i := 7) (d := 26) (OP := Op.indexAddr 22 (Operand.tmp 24) (Operand.tmp 25)) (T := 0) (v := ?v56) rfl rfl rfl rfl (by kernel_rfl) (by kernel_rfl) (by kernel_rfl) (fun _ _ _ h => h) (by rfl) ?h56 hHeld ?r56
            case h56 => (intro w' hSw; (try dsimp only at hSw); go_simp <;> with_reducible rfl)
            try simp only [Act.put, sI, sZ, sS]
            refine take_op (i := 8) (d := 27) (OP := Op.fieldAddr 53 (Operand.tmp 26) 0) (T := 0) (v := ?v57) rfl rfl rfl rfl (by kernel_rfl) (by kernel_rfl) (by kernel_rfl) (fun _ _ _ h => h) (by rfl) ?h57 hHeld ?r57
            case h57 => (intro w' hSw; (try dsimp only at hSw); go_simp <;> with_reducible rfl)
            try simp only [Act.put, sI, sZ, sS]
            refine take_op (i := 9) (d := 28) (OP := Op.load 43 (Operand.tmp 27)) (T := 43) (v := ?v58) rfl rfl rfl rfl (by kernel_rfl) (by kernel_rfl) (by kernel_rfl) (fun _ _ _ h => h) (by rfl) ?h58 hHeld ?r58
            case h58 => (intro w' hSw; (try dsimp only at hSw); go_simp <;> with_reducible rfl)
            try simp only [Act.put, sI, sZ, sS]
            refine take_op (i := 10) (d := 29) (OP := Op.binOp BinOp.eql 43 (Operand.tmp 23) (Operand.tmp 28) 43) (T := 4) (v := .bool false) rfl rfl rfl rfl (by kernel_rfl) (by kernel_rfl) (by kernel_rfl) (fun _ _ _ h => h) (by rfl) ?h59 hHeld ?r59
            case h59 => (intro w' hSw; exact exec_eq43 (p := (g, r, l0, n0, i0)) (q := (g1, r1, l1, n1, i1)) rfl rfl heq)
            try simp only [Act.put, sI, sZ, sS]
            refine take_op (i := 11) (d := 30) (OP := Op.move (Operand.tmp 29)) (T := 4) (v := ?v60) rfl rfl rfl rfl (by kernel_rfl) (by kernel_rfl) (by kernel_rfl) (fun _ _ _ h => h) (by rfl) ?h60 hHeld ?r60
            case h60 => (intro w' hSw; (try dsimp only at hSw); go_simp <;> with_reducible rfl)
            try simp only [Act.put, sI, sZ, sS]
            refine pass_op (i := 12) (d := 31) rfl rfl (by kernel_rfl) (by kernel_rfl) (by kernel_rfl) (fun _ _ _ h => h) (by rfl) hHeld ?_
            try simp only [Act.put, sI, sZ, sS]
            refine pass_op (i := 13) (d := 32) rfl rfl (by kernel_rfl) (by kernel_rfl) (by kernel_rfl) (fun _ _ _ h => h) (by rfl) hHeld ?_
            try simp only [Act.put, sI, sZ, sS]
            refine pass_op (i := 14) (d := 33) rfl rfl (by kernel_rfl) (by kernel_rfl) (by kernel_rfl) (fun _ _ _ h => h) (by rfl) hHeld ?_
            try simp only [Act.put, sI, sZ, sS]
            refine pass_op (i := 15) (d := 34) rfl rfl (by kernel_rfl) (by kernel_rfl) (by kernel_rfl) (fun _ _ _ h => h) (by rfl) hHeld ?_
            try simp only [Act.put, sI, sZ, sS]
            refine pass_op (i := 16) (d := 35) rfl rfl (by kernel_rfl) (by kernel_rfl) (by kernel_rfl) (fun _ _ _ h => h) (by rfl) hHeld ?_
            try simp only [Act.put, sI, sZ, sS]
            refine pass_op (i := 17) (d := 36) rfl rfl (by kernel_rfl) (by kernel_rfl) (by kernel_rfl) (fun _ _ _ h => h) (by rfl) hHeld ?_
            try simp only [Act.put, sI, sZ, sS]
            refine pass_op (i := 18) (d := 37) rfl rfl (by kernel_rfl) (by kernel_rfl) (by kernel_rfl) (fun _ _ _ h => h) (by rfl) hHeld ?_
            try simp only [Act.put, sI, sZ, sS]
            refine pass_op (i := 19) (d := 38) rfl rfl (by kernel_rfl) (by kernel_rfl) (by kernel_rfl) (fun _ _ _ h => h) (by rfl) hHeld ?_
            try simp only [Act.put, sI, sZ, sS]
            refine pass_op (i := 20) (d := 39) rfl rfl (by kernel_rfl) (by kernel_rfl) (by kernel_rfl) (fun _ _ _ h => h) (by rfl) hHeld ?_
            try simp only [Act.put, sI, sZ, sS]
            refine pass_op (i := 21) (d := 40) rfl rfl (by kernel_rfl) (by kernel_rfl) (by kernel_rfl) (fun _ _ _ h => h) (by rfl) hHeld ?_
            try simp only [Act.put, sI, sZ, sS]
            refine pass_op (i := 22) (d := 41) rfl rfl (by kernel_rfl) (by kernel_rfl) (by kernel_rfl) (fun _ _ _ h => h) (by rfl) hHeld ?_
            try simp only [Act.put, sI, sZ, sS]
            refine take_op (i := 23) (d := 42) (OP := Op.pick (Operand.tmp 30) (Operand.tmp 41) (Operand.const (Value.bool false))) (T := 4) (v := ?v61) rfl rfl rfl rfl (by kernel_rfl) (by kernel_rfl) (by kernel_rfl) (fun _ _ _ h => h) (by rfl) ?h61 hHeld ?r61
            case h61 => (intro w' hSw; (try dsimp only at hSw); go_simp <;> with_reducible rfl)
            try simp only [Act.put, sI, sZ, sS]
            refine wpAnyH_done (by kernel_rfl) ?_ _
            have HE := hide hHeld.2.2.2.2.2.2.2.2.2.2.2.2
            clear hHeld q0 q1 q2 q3 q4 q5 s0 s1 s2 s3 s4 s5 heq
            go_wp2
            go_roundw
            case rel => exact ⟨k + 1, by omega, by go_num, HST, hide (HBK.out.trans (HE.out.mono HBK.out.size))⟩
            case measure => simp [intOf]; omega
        · obtain rfl : k = M := by omega
          have d2 : decide (k < k) = false := by simp
          go_wp2
          go_roundw
          case rel =>
            refine ⟨i + 1, by omega, by go_num, hide (fun j z hj hz y hy e => ?_), HBK⟩
            by_cases hji : j = i
            · subst hji
              rw [HX.out] at hz
              cases hz
              obtain ⟨m, hm, e2⟩ := List.getElem_of_mem hy
              exact HK.out m y (by rw [H.out.2.2.1]; exact hm) (by rw [List.getElem?_eq_getElem hm, e2]) e
            · exact hrest.out j z (by omega) hz y hy e
          case measure => simp [intOf]; omega
    · obtain rfl : i = N := by omega
      have d1 : decide (i < i) = false := by simp
      have hd : R = true := by
        rw [H.out.2.2.2.2, sglB_iff]
        intro x hm y hy e
        obtain ⟨j, hj, e2⟩ := List.getElem_of_mem hm
        exact hrest.out j x (by rw [H.out.1]; exact hj) (by rw [List.getElem?_eq_getElem hj, e2]) y hy e
      have HD := hide hd
      clear hd
      go_wp2
      go_ret
      exact ⟨by first | (rw [HD.out]; rfl) | rw [HD.out], HB.out⟩
end Go.Proofs.YtkkpdgfllnbigaaGreat.Jo
