/-
  tagset: what All goes over (80).
-/
import Derived.Test.YtkkpdgfllnbigaaGreatDoorMg21
namespace Go.Proofs.YtkkpdgfllnbigaaGreatDoor.Tg
open Go.RowKit Go.Shelf
set_option linter.unusedSimpArgs false
set_option linter.unusedVariables false
attribute [local go_sem] Oper.semAt_some

theorem gA_next {acc : List St} {x y : El} {l : List El} (h : y.2 = x.2) : gA acc (x :: y :: l) = gA (acc ++ [x.1]) (y :: l) := by rw [gA, if_pos h]
theorem gA_last {acc : List St} {x : El} {l : List El} (h : ∀ y, l.head? = some y → y.2 ≠ x.2) : gA acc (x :: l) = (x.2, acc ++ [x.1]) :: gA [] l := by
  cases l with
  | nil => rfl
  | cons y l => rw [gA, if_neg (h y rfl)]
theorem turn_wide {n : Nat} {P : Program} {ops : Array Oper} {rest : List Oper} {o : Oper} {a : Act} {w w' : World} {Q : Exit → Act → World → Prop} {OP : Op} {T : TypeId} {v : Value} (hgd : o.guard = none) (ho : o.op = OP) (ht : o.type = T) (hd : ∀ c, OP ≠ .defer c)
    (hy : (execOp a.eval { dst := none, op := OP, type := T, pos := "", after := #[], guard := none }).run P w = .ok (.value v) w') (h : wpListIn Fence.wide n P ops Q rest (a.put o.dst v) w') : wpListIn Fence.wide n P ops Q (o :: rest) a w :=
  wpListIn_plain hgd fun K hK => by
    refine ⟨fun _ _ => trivial, ?_⟩
    rw [Oper.semAt_eq _ _ _ (by rw [ho]; exact hd), exec_same a.eval o ho ht, hy]
    exact hK _ _ h
theorem drop_cons' {l : List El} {i : Nat} {x : El} (h : l[i]? = some x) : l.drop i = x :: l.drop (i + 1) := by
  obtain ⟨h1, h2⟩ := List.getElem?_eq_some_iff.1 h
  rw [List.drop_eq_getElem_cons h1, h2]
/-- What is handed over: a text, and a row of its stamps that is the caller's. -/
def EG (B : Nat) (W : World) (x : ByteArray × List St) (args : Array Value) : Prop := ∃ a c, args = #[.string x.1, .slice a x.2.length c] ∧ Ov W B (.slice a x.2.length c) x.2
def KG (Lb : Nat) (ao : Option Addr) : Nat → Prop := fun j => j = Lb ∨ ∃ a, ao = some a ∧ j = a.block
theorem Re.same {K : Nat → Prop} {w W : World} {ao : Option Addr} {l : List El} (h : Re w ao l) (hs : Pm.Same K w W) (hK : ∀ a, ao = some a → K a.block) : Re W ao l := ⟨h.1, fun a ha j u hj => by
  have h1 := h.2 a ha j u hj
  have e : (a.add j).block = a.block := by unfold Addr.add; split <;> rfl
  exact (World.cell?_of_block (by rw [e]; exact hs _ (hK a ha))).trans h1⟩
set_option maxHeartbeats 8000000 in
set_option maxRecDepth 100000 in
theorem iterG (L : List El) (Lb : Nat) (ao : Option Addr) (cl : Nat) (w : World) (hl : L.length ≤ 1000) (hL : w.cell? ⟨Lb, 0, none⟩ = some (.slice ao L.length cl)) (hr : Re w ao L) (hab : ∀ a, ao = some a → a.block < w.heap.size) :
    IterR 56 #[.pointer (some ⟨Lb, 0, none⟩)] (gA [] L) EG (KG Lb ao) w := by
  intro f D J Jx W hS hsz hDK hDlt hJB hJx hY hJ0
  obtain ⟨N, hN⟩ : ∃ N, N = L.length := ⟨_, rfl⟩
  obtain ⟨G, hG⟩ : ∃ G, G = gA [] L := ⟨_, rfl⟩
  have hKw : ∀ j, KG Lb ao j → j < w.heap.size := fun j hj => by
    rcases hj with rfl | ⟨a, ha, rfl⟩
    · exact World.block_lt_of_cell? w _ hL
    · exact hab a ha
  have hst : ∀ W', Pm.Same (KG Lb ao) w W' → W'.cell? ⟨Lb, 0, none⟩ = some (.slice ao N cl) ∧ Re W' ao L := fun W' h => ⟨by rw [hN]; exact h.cell (.inl rfl) hL, Re.same hr h (fun a ha => .inr ⟨a, ha, rfl⟩)⟩
  have hsB : ∀ W1 W2, Pm.Same (KG Lb ao) w W1 → w.heap.size ≤ W1.heap.size → Below W1.heap.size W1 W2 → Pm.Same (KG Lb ao) w W2 := fun W1 W2 h1 h2 h3 => h1.below hKw h2 h3
  rw [← hG] at hY ⊢
  have HJ := hide (And.intro hS (And.intro hsz (And.intro hDK (And.intro hDlt (And.intro hJB (And.intro hJx (And.intro hY (And.intro hJ0 (And.intro hKw (And.intro hst (And.intro hsB (And.intro hN (And.intro hG hl)))))))))))))
  have hc0 := (hst W hS).1
  clear hS hsz hDK hDlt hJB hJx hY hJ0 hKw hst hsB hL hr hG hl hN hab
  refine (callsIn_wide (n := 5)).1 (callsIn_of_wp Tryz.func56 rfl trivial ?_ rfl)
  simp only [Tryz.ntmps56, List.size_toArray, List.length_cons, List.length_nil, Nat.reduceAdd, Nat.reduceSub, Array.replicate_succ, Array.replicate_zero, List.push_toArray, List.append_toArray, List.nil_append, List.cons_append]
  gi_wp2
  gi_loopw [3, 9] (fun v3 v9 wr => ∃ (i cc : Nat) (acc : List St) (Wy : World), i ≤ N ∧ v9 = .int .i64 (i : Nat) ∧ Hid (Ov wr Wy.heap.size v3 acc ∧ acc.length ≤ i ∧ G.drop cc = gA acc (L.drop i) ∧ cc ≤ G.length ∧ J W.heap.size cc Wy ∧ Pm.Same (KG Lb ao) w Wy ∧ W.heap.size ≤ Wy.heap.size ∧ Below Wy.heap.size Wy wr)) (fun _ v9 _ => N - (intOf v9).toNat)
  case atStart => exact ⟨0, 0, [], W, Nat.zero_le _, rfl, hide ⟨Ov.nil _ _, Nat.le_refl _, by rw [HJ.out.2.2.2.2.2.2.2.2.2.2.2.2.1]; rfl, Nat.zero_le _, HJ.out.2.2.2.2.2.2.2.1 _ W (Below.refl _ _) (Nat.le_refl _), HJ.out.1, Nat.le_refl _, Below.refl _ _⟩⟩
  case round =>
    obtain ⟨i, cc, acc, Wy, hi, rfl, HI⟩ := hrel
    by_cases hgo : i < N
    · have z1 : (i : Int) < (N : Int) := by omega
      obtain ⟨hS, hsz, hDK, hDlt, hJB, hJx, hY, hJ0, hKw, hst, hsB, hN, hG, hl⟩ := HJ.out
      obtain ⟨hO, hal, hgd, hcc, hJy, hSy, hzy, hby⟩ := HI.out
      have hSr := hsB Wy wr hSy (by omega) hby
      obtain ⟨cL, rr⟩ := hst wr hSr
      obtain ⟨x, hx⟩ : ∃ x, L[i]? = some x := ⟨_, List.getElem?_eq_getElem (by rw [← hN]; exact hgo)⟩
      have hdr : L.drop i = x :: L.drop (i + 1) := drop_cons' hx
      obtain ⟨b, off, hbo, q0, q1, q2, q3, q4, q5⟩ := rr.cells hx
      obtain ⟨⟨g, r, lb, n, ix⟩, X⟩ := x
      dsimp only at q0 q1 q2 q3 q4 q5
      have hi4 : i < 1000 := by omega
      have bw1 : Below wr.heap.size wr (wr.alloc (.cells #[.int .i64 g, .int .i64 r, .string lb, .int .i64 n, .int .i64 ix, .string X] 33)) := (Below.refl _ wr).alloc (Nat.le_refl _) _
      have bw2 : Below (wr.alloc (.cells #[.int .i64 g, .int .i64 r, .string lb, .int .i64 n, .int .i64 ix, .string X] 33)).heap.size (wr.alloc (.cells #[.int .i64 g, .int .i64 r, .string lb, .int .i64 n, .int .i64 ix, .string X] 33)) ((wr.alloc (.cells #[.int .i64 g, .int .i64 r, .string lb, .int .i64 n, .int .i64 ix, .string X] 33)).alloc (.cells #[.int .i64 g, .int .i64 r, .string lb, .int .i64 n, .int .i64 ix] 27)) := (Below.refl _ _).alloc (Nat.le_refl _) _
      have hm0 := heap_alloc_new wr (.cells #[.int .i64 g, .int .i64 r, .string lb, .int .i64 n, .int .i64 ix, .string X] 33)
      have hm1 := heap_alloc_new (wr.alloc (.cells #[.int .i64 g, .int .i64 r, .string lb, .int .i64 n, .int .i64 ix, .string X] 33)) (.cells #[.int .i64 g, .int .i64 r, .string lb, .int .i64 n, .int .i64 ix] 27)
      have hs1 : (wr.alloc (.cells #[.int .i64 g, .int .i64 r, .string lb, .int .i64 n, .int .i64 ix, .string X] 33)).heap.size = wr.heap.size + 1 := by simp
      rw [hs1] at hm1
      have hby2 := bw1.trans (bw2.mono bw1.size)
      obtain ⟨a', c', W3, hr3, hO3, ho3, hW3⟩ := push_OvW (y := (g, r, lb, n, ix)) (hO.below hby2) hm1 (by omega) (by have h1 := hby2.size; have h2 := hby.size; omega)
      have hown : ∀ j, u3.ownBlock = some j → Wy.heap.size ≤ j ∧ j < wr.heap.size := fun j hj => World.ownsRow.lt hO j hj
      have hb3 : Below Wy.heap.size Wy W3 := Below.only (hby.trans (hby2.mono hby.size)) ho3 (by have := hby2.size; have := hby.size; omega) (fun j hj => (hown j hj).1)
      have hS3 := hsB Wy W3 hSy (by omega) hb3
      have m03 : W3.heap[wr.heap.size]? = some (.cells #[.int .i64 g, .int .i64 r, .string lb, .int .i64 n, .int .i64 ix, .string X] 33 (0, 0)) := by
        have h1 := (bw2.block _ (gI hm0).1).trans hm0
        exact (ho3.block _ (gI h1).1 (fun e => by have := hown _ e; omega)).trans h1
      obtain ⟨Xb, hXb⟩ : ∃ q, q = wr.heap.size := ⟨_, rfl⟩
      rw [← hXb] at m03 hr3
      obtain ⟨cL3, rr3⟩ := hst _ hS3
      have cX3 : W3.cell? ⟨Xb, 5, none⟩ = some (.string X) := (cell_of_row _ _ 5 _ 33 (0, 0) m03).trans rfl
      have HA := hide (And.intro hx (And.intro hdr (And.intro hO3 (And.intro hb3 (And.intro hS3 rr3)))))
      have HXb := hide hXb
      have HBO := hide hbo
      subst hbo
      clear hS hsz hDK hDlt hJB hJx hY hJ0 hKw hst hsB hN hG hl hO hal hgd hcc hJy hSy hzy hby hSr rr hx hdr bw1 bw2 hm0 hm1 hs1 hby2 hO3 ho3 hW3 hown hb3 hS3 m03 rr3 hXb
      -- what a call of the loop's body brings
      by_cases hlast : i + 1 < N
      · obtain ⟨y, hy⟩ : ∃ y, L[i + 1]? = some y := ⟨_, List.getElem?_eq_getElem (by rw [← HJ.out.2.2.2.2.2.2.2.2.2.2.2.1]; exact hlast)⟩
        have z2 : ((i : Int) + 1) < (N : Int) := by omega
        have z3 : ((i + 1 : Nat) : Int) < (N : Int) := by omega
        have z4 : decide (((i : Int) + 1) < (N : Int)) = true := by simpa using z2
        obtain ⟨b', off', e', -, -, -, -, -, p5⟩ := HA.out.2.2.2.2.2.cells hy
        injection e' with e'
        injection e' with e1 e2
        subst e1 e2
        have HYY := hide hy
        clear hy
        have hse : y.2 = X ∨ ¬ y.2 = X := Decidable.em _
        rcases hse with he | he
        · have hbe : (y.2.toList == X.toList) = true := bytes_same.2 he
          have HEQ := hide he
          clear he
          gi_wp2_with (gi_at_builtin; rw [← HXb.out]; refine turn_wide (OP := .call { callee := .builtin .append, args := #[.tmp 14, .tmp 17], argTypes := #[53, 53] }) (T := 53) rfl rfl rfl (by intro c e; cases e) (exec_append rfl rfl hr3) ?_)
          refine Pm.in_region (S := fun w' => w'.cell? ⟨Lb, 0, none⟩ = some (.slice (some ⟨b, off, none⟩) N cl) ∧ w'.cell? ⟨Xb, 5, none⟩ = some (.string X) ∧ w'.cell? ⟨b, off + (i + 1) * 6 + 5, none⟩ = some (.string y.2)) (by kernel_rfl) (by exact ⟨cL3, cX3, p5⟩) (fun hHeld => ?_)
          try dsimp only at hHeld
          refine Pm.in_take (i := 0) (d := 21) (OP := Op.move (Operand.tmp 6)) (T := 3) (v := ?v1) rfl rfl rfl rfl (by kernel_rfl) (by kernel_rfl) (by kernel_rfl) (fun _ _ _ h => h) (by rfl) ?h1 hHeld ?r1
          case h1 => (intro w' hSw; (try dsimp only at hSw); go_simp <;> with_reducible rfl)
          try simp only [Act.put, sI, sZ, sS]
          refine Pm.in_take (i := 1) (d := 22) (OP := Op.load 69 (Operand.tmp 1)) (T := 69) (v := ?v2) rfl rfl rfl rfl (by kernel_rfl) (by kernel_rfl) (by kernel_rfl) (fun _ _ _ h => h) (by rfl) ?h2 hHeld ?r2
          case h2 => (intro w' hSw; (try dsimp only at hSw); go_simp <;> with_reducible rfl)
          try simp only [Act.put, sI, sZ, sS]
          refine Pm.in_take (i := 2) (d := 23) (OP := Op.call { callee := Callee.builtin Builtin.len, args := #[Operand.tmp 22], argTypes := #[69] }) (T := 3) (v := ?v3) rfl rfl rfl rfl (by kernel_rfl) (by kernel_rfl) (by kernel_rfl) (fun _ _ _ h => h) (by rfl) ?h3 hHeld ?r3
          case h3 => (intro w' hSw; (try dsimp only at hSw); go_simp <;> with_reducible rfl)
          try simp only [Act.put, sI, sZ, sS]
          refine Pm.in_take (i := 3) (d := 24) (OP := Op.binOp BinOp.lss 3 (Operand.tmp 21) (Operand.tmp 23) 3) (T := 4) (v := ?v4) rfl rfl rfl rfl (by kernel_rfl) (by kernel_rfl) (by kernel_rfl) (fun _ _ _ h => h) (by rfl) ?h4 hHeld ?r4
          case h4 => (intro w' hSw; (try dsimp only at hSw); go_simp <;> with_reducible rfl)
          try simp only [Act.put, sI, sZ, sS]
          refine Pm.in_take (i := 4) (d := 25) (OP := Op.move (Operand.tmp 24)) (T := 4) (v := ?v5) rfl rfl rfl rfl (by kernel_rfl) (by kernel_rfl) (by kernel_rfl) (fun _ _ _ h => h) (by rfl) ?h5 hHeld ?r5
          case h5 => (intro w' hSw; (try dsimp only at hSw); go_simp <;> with_reducible rfl)
          try simp only [Act.put, sI, sZ, sS]
          refine Pm.in_take (i := 5) (d := 26) (OP := Op.load 69 (Operand.tmp 1)) (T := 69) (v := ?v6) rfl rfl rfl rfl (by kernel_rfl) (by kernel_rfl) (by kernel_rfl) (fun _ _ _ h => h) (by rfl) ?h6 hHeld ?r6
          case h6 => (intro w' hSw; (try dsimp only at hSw); go_simp <;> with_reducible rfl)
          try simp only [Act.put, sI, sZ, sS]
          refine Pm.in_take (i := 6) (d := 27) (OP := Op.move (Operand.tmp 6)) (T := 3) (v := ?v7) rfl rfl rfl rfl (by kernel_rfl) (by kernel_rfl) (by kernel_rfl) (fun _ _ _ h => h) (by rfl) ?h7 hHeld ?r7
          case h7 => (intro w' hSw; (try dsimp only at hSw); go_simp <;> with_reducible rfl)
          try simp only [Act.put, sI, sZ, sS]
          refine Pm.in_take (i := 7) (d := 28) (OP := Op.indexAddr 69 (Operand.tmp 26) (Operand.tmp 27)) (T := 0) (v := .pointer (some ⟨b, off + (i + 1) * 6, none⟩)) rfl rfl rfl rfl (by kernel_rfl) (by kernel_rfl) (by kernel_rfl) (fun _ _ _ h => h) (by rfl) ?h8 hHeld ?r8
          case h8 => (intro w' hSw; exact exec_ixE (k := i + 1) rfl rfl z3)
          try simp only [Act.put, sI, sZ, sS]
          refine Pm.in_take (i := 8) (d := 29) (OP := Op.fieldAddr 33 (Operand.tmp 28) 1) (T := 0) (v := ?v9) rfl rfl rfl rfl (by kernel_rfl) (by kernel_rfl) (by kernel_rfl) (fun _ _ _ h => h) (by rfl) ?h9 hHeld ?r9
          case h9 => (intro w' hSw; (try dsimp only at hSw); go_simp <;> with_reducible rfl)
          try simp only [Act.put, sI, sZ, sS]
          refine Pm.in_take (i := 9) (d := 30) (OP := Op.load 9 (Operand.tmp 29)) (T := 9) (v := ?v10) rfl rfl rfl rfl (by kernel_rfl) (by kernel_rfl) (by kernel_rfl) (fun _ _ _ h => h) (by rfl) ?h10 hHeld ?r10
          case h10 => (intro w' hSw; (try dsimp only at hSw); go_simp <;> with_reducible rfl)
          try simp only [Act.put, sI, sZ, sS]
          refine Pm.in_take (i := 10) (d := 31) (OP := Op.fieldAddr 33 (Operand.tmp 5) 1) (T := 0) (v := ?v11) rfl rfl rfl rfl (by kernel_rfl) (by kernel_rfl) (by kernel_rfl) (fun _ _ _ h => h) (by rfl) ?h11 hHeld ?r11
          case h11 => (intro w' hSw; (try dsimp only at hSw); go_simp <;> with_reducible rfl)
          try simp only [Act.put, sI, sZ, sS]
          refine Pm.in_take (i := 11) (d := 32) (OP := Op.load 9 (Operand.tmp 31)) (T := 9) (v := ?v12) rfl rfl rfl rfl (by kernel_rfl) (by kernel_rfl) (by kernel_rfl) (fun _ _ _ h => h) (by rfl) ?h12 hHeld ?r12
          case h12 => (intro w' hSw; (try dsimp only at hSw); go_simp <;> with_reducible rfl)
          try simp only [Act.put, sI, sZ, sS]
          refine Pm.in_take (i := 12) (d := 33) (OP := Op.binOp BinOp.eql 9 (Operand.tmp 30) (Operand.tmp 32) 9) (T := 4) (v := ?v13) rfl rfl rfl rfl (by kernel_rfl) (by kernel_rfl) (by kernel_rfl) (fun _ _ _ h => h) (by rfl) ?h13 hHeld ?r13
          case h13 => (intro w' hSw; (try dsimp only at hSw); go_simp <;> with_reducible rfl)
          try simp only [Act.put, sI, sZ, sS]
          refine Pm.in_take (i := 13) (d := 34) (OP := Op.pick (Operand.tmp 25) (Operand.tmp 33) (Operand.const (Value.bool false))) (T := 4) (v := ?v14) rfl rfl rfl rfl (by kernel_rfl) (by kernel_rfl) (by kernel_rfl) (fun _ _ _ h => h) (by rfl) ?h14 hHeld ?r14
          case h14 => (intro w' hSw; (try dsimp only at hSw); go_simp <;> with_reducible rfl)
          try simp only [Act.put, sI, sZ, sS]
          refine Pm.in_done (by kernel_rfl) ?_
          have HE6 : Hid (G.drop cc = gA (acc ++ [(g, r, lb, n, ix)]) (L.drop (i + 1))) := hide (by
            obtain ⟨hO, hal, hgd, hcc, hJy, hSy, hzy, hby⟩ := HI.out
            rw [hgd, HA.out.2.1, drop_cons' HYY.out]
            exact gA_next (x := ((g, r, lb, n, ix), X)) HEQ.out)
          clear hHeld
          gi_wp2
          go_roundw
          case rel =>
            obtain ⟨hO, hal, hgd, hcc, hJy, hSy, hzy, hby⟩ := HI.out
            have hd3 := drew_below W3
            exact ⟨i + 1, cc, acc ++ [(g, r, lb, n, ix)], Wy, by omega, by go_num, hide ⟨HA.out.2.2.1.below hd3, by simp; omega, HE6.out, hcc, hJy, hSy, hzy, HA.out.2.2.2.1.trans (hd3.mono HA.out.2.2.2.1.size)⟩⟩
          case measure => simp [intOf]; omega
        · have hbe : (y.2.toList == X.toList) = false := by rw [Bool.eq_false_iff, Ne, bytes_same]; exact he
          have HEQ := hide he
          clear he
          gi_wp2_with (gi_at_builtin; rw [← HXb.out]; refine turn_wide (OP := .call { callee := .builtin .append, args := #[.tmp 14, .tmp 17], argTypes := #[53, 53] }) (T := 53) rfl rfl rfl (by intro c e; cases e) (exec_append rfl rfl hr3) ?_)
          refine Pm.in_region (S := fun w' => w'.cell? ⟨Lb, 0, none⟩ = some (.slice (some ⟨b, off, none⟩) N cl) ∧ w'.cell? ⟨Xb, 5, none⟩ = some (.string X) ∧ w'.cell? ⟨b, off + (i + 1) * 6 + 5, none⟩ = some (.string y.2)) (by kernel_rfl) (by exact ⟨cL3, cX3, p5⟩) (fun hHeld => ?_)
          try dsimp only at hHeld
          refine Pm.in_take (i := 0) (d := 21) (OP := Op.move (Operand.tmp 6)) (T := 3) (v := ?v15) rfl rfl rfl rfl (by kernel_rfl) (by kernel_rfl) (by kernel_rfl) (fun _ _ _ h => h) (by rfl) ?h15 hHeld ?r15
          case h15 => (intro w' hSw; (try dsimp only at hSw); go_simp <;> with_reducible rfl)
          try simp only [Act.put, sI, sZ, sS]
          refine Pm.in_take (i := 1) (d := 22) (OP := Op.load 69 (Operand.tmp 1)) (T := 69) (v := ?v16) rfl rfl rfl rfl (by kernel_rfl) (by kernel_rfl) (by kernel_rfl) (fun _ _ _ h => h) (by rfl) ?h16 hHeld ?r16
          case h16 => (intro w' hSw; (try dsimp only at hSw); go_simp <;> with_reducible rfl)
          try simp only [Act.put, sI, sZ, sS]
          refine Pm.in_take (i := 2) (d := 23) (OP := Op.call { callee := Callee.builtin Builtin.len, args := #[Operand.tmp 22], argTypes := #[69] }) (T := 3) (v := ?v17) rfl rfl rfl rfl (by kernel_rfl) (by kernel_rfl) (by kernel_rfl) (fun _ _ _ h => h) (by rfl) ?h17 hHeld ?r17
          case h17 => (intro w' hSw; (try dsimp only at hSw); go_simp <;> with_reducible rfl)
          try simp only [Act.put, sI, sZ, sS]
          refine Pm.in_take (i := 3) (d := 24) (OP := Op.binOp BinOp.lss 3 (Operand.tmp 21) (Operand.tmp 23) 3) (T := 4) (v := ?v18) rfl rfl rfl rfl (by kernel_rfl) (by kernel_rfl) (by kernel_rfl) (fun _ _ _ h => h) (by rfl) ?h18 hHeld ?r18
          case h18 => (intro w' hSw; (try dsimp only at hSw); go_simp <;> with_reducible rfl)
          try simp only [Act.put, sI, sZ, sS]
          refine Pm.in_take (i := 4) (d := 25) (OP := Op.move (Operand.tmp 24)) (T := 4) (v := ?v19) rfl rfl rfl rfl (by kernel_rfl) (by kernel_rfl) (by kernel_rfl) (fun _ _ _ h => h) (by rfl) ?h19 hHeld ?r19
          case h19 => (intro w' hSw; (try dsimp only at hSw); go_simp <;> with_reducible rfl)
          try simp only [Act.put, sI, sZ, sS]
          refine Pm.in_take (i := 5) (d := 26) (OP := Op.load 69 (Operand.tmp 1)) (T := 69) (v := ?v20) rfl rfl rfl rfl (by kernel_rfl) (by kernel_rfl) (by kernel_rfl) (fun _ _ _ h => h) (by rfl) ?h20 hHeld ?r20
          case h20 => (intro w' hSw; (try dsimp only at hSw); go_simp <;> with_reducible rfl)
          try simp only [Act.put, sI, sZ, sS]
          refine Pm.in_take (i := 6) (d := 27) (OP := Op.move (Operand.tmp 6)) (T := 3) (v := ?v21) rfl rfl rfl rfl (by kernel_rfl) (by kernel_rfl) (by kernel_rfl) (fun _ _ _ h => h) (by rfl) ?h21 hHeld ?r21
          case h21 => (intro w' hSw; (try dsimp only at hSw); go_simp <;> with_reducible rfl)
          try simp only [Act.put, sI, sZ, sS]
          refine Pm.in_take (i := 7) (d := 28) (OP := Op.indexAddr 69 (Operand.tmp 26) (Operand.tmp 27)) (T := 0) (v := .pointer (some ⟨b, off + (i + 1) * 6, none⟩)) rfl rfl rfl rfl (by kernel_rfl) (by kernel_rfl) (by kernel_rfl) (fun _ _ _ h => h) (by rfl) ?h22 hHeld ?r22
          case h22 => (intro w' hSw; exact exec_ixE (k := i + 1) rfl rfl z3)
          try simp only [Act.put, sI, sZ, sS]
          refine Pm.in_take (i := 8) (d := 29) (OP := Op.fieldAddr 33 (Operand.tmp 28) 1) (T := 0) (v := ?v23) rfl rfl rfl rfl (by kernel_rfl) (by kernel_rfl) (by kernel_rfl) (fun _ _ _ h => h) (by rfl) ?h23 hHeld ?r23
          case h23 => (intro w' hSw; (try dsimp only at hSw); go_simp <;> with_reducible rfl)
          try simp only [Act.put, sI, sZ, sS]
          refine Pm.in_take (i := 9) (d := 30) (OP := Op.load 9 (Operand.tmp 29)) (T := 9) (v := ?v24) rfl rfl rfl rfl (by kernel_rfl) (by kernel_rfl) (by kernel_rfl) (fun _ _ _ h => h) (by rfl) ?h24 hHeld ?r24
          case h24 => (intro w' hSw; (try dsimp only at hSw); go_simp <;> with_reducible rfl)
          try simp only [Act.put, sI, sZ, sS]
          refine Pm.in_take (i := 10) (d := 31) (OP := Op.fieldAddr 33 (Operand.tmp 5) 1) (T := 0) (v := ?v25) rfl rfl rfl rfl (by kernel_rfl) (by kernel_rfl) (by kernel_rfl) (fun _ _ _ h => h) (by rfl) ?h25 hHeld ?r25
          case h25 => (intro w' hSw; (try dsimp only at hSw); go_simp <;> with_reducible rfl)
          try simp only [Act.put, sI, sZ, sS]
          refine Pm.in_take (i := 11) (d := 32) (OP := Op.load 9 (Operand.tmp 31)) (T := 9) (v := ?v26) rfl rfl rfl rfl (by kernel_rfl) (by kernel_rfl) (by kernel_rfl) (fun _ _ _ h => h) (by rfl) ?h26 hHeld ?r26
          case h26 => (intro w' hSw; (try dsimp only at hSw); go_simp <;> with_reducible rfl)
          try simp only [Act.put, sI, sZ, sS]
          refine Pm.in_take (i := 12) (d := 33) (OP := Op.binOp BinOp.eql 9 (Operand.tmp 30) (Operand.tmp 32) 9) (T := 4) (v := ?v27) rfl rfl rfl rfl (by kernel_rfl) (by kernel_rfl) (by kernel_rfl) (fun _ _ _ h => h) (by rfl) ?h27 hHeld ?r27
          case h27 => (intro w' hSw; (try dsimp only at hSw); go_simp <;> with_reducible rfl)
          try simp only [Act.put, sI, sZ, sS]
          refine Pm.in_take (i := 13) (d := 34) (OP := Op.pick (Operand.tmp 25) (Operand.tmp 33) (Operand.const (Value.bool false))) (T := 4) (v := ?v28) rfl rfl rfl rfl (by kernel_rfl) (by kernel_rfl) (by kernel_rfl) (fun _ _ _ h => h) (by rfl) ?h28 hHeld ?r28
          case h28 => (intro w' hSw; (try dsimp only at hSw); go_simp <;> with_reducible rfl)
          try simp only [Act.put, sI, sZ, sS]
          refine Pm.in_done (by kernel_rfl) ?_
          have hd3 := drew_below W3
          obtain ⟨hS, hsz, hDK, hDlt, hJB, hJx, hY, hJ0, hKw, hst, hsB, hN, hG, hl⟩ := HJ.out
          obtain ⟨hO, hal, hgd, hcc, hJy, hSy, hzy, hby⟩ := HI.out
          have hgl : gA acc (L.drop i) = (X, acc ++ [(g, r, lb, n, ix)]) :: gA [] (L.drop (i + 1)) := by
            rw [HA.out.2.1]
            rw [drop_cons' HYY.out]
            exact gA_last (x := ((g, r, lb, n, ix), X)) (fun z hz => by injection hz with hz; rw [← hz]; exact HEQ.out)
          have hgt : G[cc]? = some (X, acc ++ [(g, r, lb, n, ix)]) := by
            have h1 : (G.drop cc)[0]? = some (X, acc ++ [(g, r, lb, n, ix)]) := by rw [hgd, hgl]; rfl
            rw [List.getElem?_drop, Nat.add_zero] at h1
            exact h1
          have hcl := (List.getElem?_eq_some_iff.1 hgt).1
          have hgd' : G.drop (cc + 1) = gA [] (L.drop (i + 1)) := by
            have h1 : (G.drop cc).drop 1 = G.drop (cc + 1) := by rw [List.drop_drop]
            rw [← h1, hgd, hgl]
            rfl
          have hb3d := HA.out.2.2.2.1.trans (hd3.mono HA.out.2.2.2.1.size)
          have hO3d := (HA.out.2.2.1.below hd3).lift hzy
          have hJd := hJB _ cc Wy W3.drew (Nat.le_refl _) hJy (below_only hb3d)
          have hSd := hsB Wy W3.drew hSy (by omega) hb3d
          have hEGd : EG W.heap.size W3.drew (X, acc ++ [(g, r, lb, n, ix)]) #[.string X, .slice a' (acc.length + 1) c'] := ⟨a', c', by simp, by simpa using hO3d⟩
          obtain ⟨fn, ytm, yas, ybo, hyy, hR⟩ := hY W.heap.size cc (X, acc ++ [(g, r, lb, n, ix)]) _ W3.drew (Nat.le_refl _) hgt hEGd hJd hSd (by have := hb3d.size; omega)
          have HRR := hide (And.intro hgd' (And.intro hcl (And.intro hSd (by have := hb3d.size; omega : W.heap.size ≤ W3.drew.heap.size))))
          have cXd : W3.drew.cell? ⟨Xb, 5, none⟩ = some (.string X) := cX3
          clear hS hsz hDK hDlt hJB hJx hY hJ0 hKw hst hsB hN hG hl hO hal hgd hcc hJy hSy hzy hby hgl hgt hcl hgd' hb3d hO3d hJd hSd hEGd hd3 hHeld
          gi_wp2
          refine hR.mono ?_
          rintro e W5 ⟨ho5, (⟨rfl, hj5⟩ | ⟨rfl, hj5⟩)⟩
          · have H5 := hide (And.intro ho5 hj5)
            clear ho5 hj5 hR hyy cXd
            gi_wp2
            go_roundw
            case rel =>
              obtain ⟨hS, hsz, hDK, hDlt, hJB, hJx, hY, hJ0, hKw, hst, hsB, hN, hG, hl⟩ := HJ.out
              refine ⟨i + 1, cc + 1, [], W5, by omega, by go_num, hide ⟨Ov.nil _ _, Nat.zero_le _, HRR.out.1, HRR.out.2.1, H5.out.2, ?_, Nat.le_trans HRR.out.2.2.2 H5.out.1.size, Below.refl _ _⟩⟩
              exact HRR.out.2.2.1.only hKw (by have := HRR.out.2.2.2; omega) H5.out.1 (fun j d hj => d.elim (fun d => hDK j d hj) (fun d => by have := hKw j hj; omega))
            case measure => simp [intOf]; omega
          · have H5 := hide (And.intro ho5 hj5)
            clear ho5 hj5 hR hyy cXd
            gi_wp2
            refine bodyPost_ret (results_none rfl _ _ _) rfl ?_
            exact ⟨⟨_, rfl⟩, W.heap.size, Nat.le_refl _, .inr H5.out.2⟩
      · have z2 : ¬ ((i : Int) + 1) < (N : Int) := by omega
        have z4 : decide (((i : Int) + 1) < (N : Int)) = false := by simpa using z2
        gi_wp2_with (gi_at_builtin; rw [← HXb.out]; refine turn_wide (OP := .call { callee := .builtin .append, args := #[.tmp 14, .tmp 17], argTypes := #[53, 53] }) (T := 53) rfl rfl rfl (by intro c e; cases e) (exec_append rfl rfl hr3) ?_)
        refine Pm.in_region (S := fun w' => w'.cell? ⟨Lb, 0, none⟩ = some (.slice (some ⟨b, off, none⟩) N cl) ∧ w'.cell? ⟨Xb, 5, none⟩ = some (.string X)) (by kernel_rfl) (by exact ⟨cL3, cX3⟩) (fun hHeld => ?_)
        try dsimp only at hHeld
        refine Pm.in_take (i := 0) (d := 21) (OP := Op.move (Operand.tmp 6)) (T := 3) (v := ?v29) rfl rfl rfl rfl (by kernel_rfl) (by kernel_rfl) (by kernel_rfl) (fun _ _ _ h => h) (by rfl) ?h29 hHeld ?r29
        case h29 => (intro w' hSw; (try dsimp only at hSw); go_simp <;> with_reducible rfl)
        try simp only [Act.put, sI, sZ, sS]
        refine Pm.in_take (i := 1) (d := 22) (OP := Op.load 69 (Operand.tmp 1)) (T := 69) (v := ?v30) rfl rfl rfl rfl (by kernel_rfl) (by kernel_rfl) (by kernel_rfl) (fun _ _ _ h => h) (by rfl) ?h30 hHeld ?r30
        case h30 => (intro w' hSw; (try dsimp only at hSw); go_simp <;> with_reducible rfl)
        try simp only [Act.put, sI, sZ, sS]
        refine Pm.in_take (i := 2) (d := 23) (OP := Op.call { callee := Callee.builtin Builtin.len, args := #[Operand.tmp 22], argTypes := #[69] }) (T := 3) (v := ?v31) rfl rfl rfl rfl (by kernel_rfl) (by kernel_rfl) (by kernel_rfl) (fun _ _ _ h => h) (by rfl) ?h31 hHeld ?r31
        case h31 => (intro w' hSw; (try dsimp only at hSw); go_simp <;> with_reducible rfl)
        try simp only [Act.put, sI, sZ, sS]
        refine Pm.in_take (i := 3) (d := 24) (OP := Op.binOp BinOp.lss 3 (Operand.tmp 21) (Operand.tmp 23) 3) (T := 4) (v := ?v32) rfl rfl rfl rfl (by kernel_rfl) (by kernel_rfl) (by kernel_rfl) (fun _ _ _ h => h) (by rfl) ?h32 hHeld ?r32
        case h32 => (intro w' hSw; (try dsimp only at hSw); go_simp <;> with_reducible rfl)
        try simp only [Act.put, sI, sZ, sS]
        refine Pm.in_take (i := 4) (d := 25) (OP := Op.move (Operand.tmp 24)) (T := 4) (v := ?v33) rfl rfl rfl rfl (by kernel_rfl) (by kernel_rfl) (by kernel_rfl) (fun _ _ _ h => h) (by rfl) ?h33 hHeld ?r33
        case h33 => (intro w' hSw; (try dsimp only at hSw); go_simp <;> with_reducible rfl)
        try simp only [Act.put, sI, sZ, sS]
        refine Pm.in_pass (i := 5) (d := 26) rfl rfl (by kernel_rfl) (by kernel_rfl) (by kernel_rfl) (fun _ _ _ h => h) (by rfl) hHeld ?_
        try simp only [Act.put, sI, sZ, sS]
        refine Pm.in_pass (i := 6) (d := 27) rfl rfl (by kernel_rfl) (by kernel_rfl) (by kernel_rfl) (fun _ _ _ h => h) (by rfl) hHeld ?_
        try simp only [Act.put, sI, sZ, sS]
        refine Pm.in_pass (i := 7) (d := 28) rfl rfl (by kernel_rfl) (by kernel_rfl) (by kernel_rfl) (fun _ _ _ h => h) (by rfl) hHeld ?_
        try simp only [Act.put, sI, sZ, sS]
        refine Pm.in_pass (i := 8) (d := 29) rfl rfl (by kernel_rfl) (by kernel_rfl) (by kernel_rfl) (fun _ _ _ h => h) (by rfl) hHeld ?_
        try simp only [Act.put, sI, sZ, sS]
        refine Pm.in_pass (i := 9) (d := 30) rfl rfl (by kernel_rfl) (by kernel_rfl) (by kernel_rfl) (fun _ _ _ h => h) (by rfl) hHeld ?_
        try simp only [Act.put, sI, sZ, sS]
        refine Pm.in_pass (i := 10) (d := 31) rfl rfl (by kernel_rfl) (by kernel_rfl) (by kernel_rfl) (fun _ _ _ h => h) (by rfl) hHeld ?_
        try simp only [Act.put, sI, sZ, sS]
        refine Pm.in_pass (i := 11) (d := 32) rfl rfl (by kernel_rfl) (by kernel_rfl) (by kernel_rfl) (fun _ _ _ h => h) (by rfl) hHeld ?_
        try simp only [Act.put, sI, sZ, sS]
        refine Pm.in_pass (i := 12) (d := 33) rfl rfl (by kernel_rfl) (by kernel_rfl) (by kernel_rfl) (fun _ _ _ h => h) (by rfl) hHeld ?_
        try simp only [Act.put, sI, sZ, sS]
        refine Pm.in_take (i := 13) (d := 34) (OP := Op.pick (Operand.tmp 25) (Operand.tmp 33) (Operand.const (Value.bool false))) (T := 4) (v := ?v34) rfl rfl rfl rfl (by kernel_rfl) (by kernel_rfl) (by kernel_rfl) (fun _ _ _ h => h) (by rfl) ?h34 hHeld ?r34
        case h34 => (intro w' hSw; (try dsimp only at hSw); go_simp <;> with_reducible rfl)
        try simp only [Act.put, sI, sZ, sS]
        refine Pm.in_done (by kernel_rfl) ?_
        have hd3 := drew_below W3
        obtain ⟨hS, hsz, hDK, hDlt, hJB, hJx, hY, hJ0, hKw, hst, hsB, hN, hG, hl⟩ := HJ.out
        obtain ⟨hO, hal, hgd, hcc, hJy, hSy, hzy, hby⟩ := HI.out
        have hgl : gA acc (L.drop i) = (X, acc ++ [(g, r, lb, n, ix)]) :: gA [] (L.drop (i + 1)) := by
          rw [HA.out.2.1]
          have h0 : L.drop (i + 1) = [] := List.drop_of_length_le (by omega)
          rw [h0]
          exact gA_last (x := ((g, r, lb, n, ix), X)) (fun z hz => by cases hz)
        have hgt : G[cc]? = some (X, acc ++ [(g, r, lb, n, ix)]) := by
          have h1 : (G.drop cc)[0]? = some (X, acc ++ [(g, r, lb, n, ix)]) := by rw [hgd, hgl]; rfl
          rw [List.getElem?_drop, Nat.add_zero] at h1
          exact h1
        have hcl := (List.getElem?_eq_some_iff.1 hgt).1
        have hgd' : G.drop (cc + 1) = gA [] (L.drop (i + 1)) := by
          have h1 : (G.drop cc).drop 1 = G.drop (cc + 1) := by rw [List.drop_drop]
          rw [← h1, hgd, hgl]
          rfl
        have hb3d := HA.out.2.2.2.1.trans (hd3.mono HA.out.2.2.2.1.size)
        have hO3d := (HA.out.2.2.1.below hd3).lift hzy
        have hJd := hJB _ cc Wy W3.drew (Nat.le_refl _) hJy (below_only hb3d)
        have hSd := hsB Wy W3.drew hSy (by omega) hb3d
        have hEGd : EG W.heap.size W3.drew (X, acc ++ [(g, r, lb, n, ix)]) #[.string X, .slice a' (acc.length + 1) c'] := ⟨a', c', by simp, by simpa using hO3d⟩
        obtain ⟨fn, ytm, yas, ybo, hyy, hR⟩ := hY W.heap.size cc (X, acc ++ [(g, r, lb, n, ix)]) _ W3.drew (Nat.le_refl _) hgt hEGd hJd hSd (by have := hb3d.size; omega)
        have HRR := hide (And.intro hgd' (And.intro hcl (And.intro hSd (by have := hb3d.size; omega : W.heap.size ≤ W3.drew.heap.size))))
        have cXd : W3.drew.cell? ⟨Xb, 5, none⟩ = some (.string X) := cX3
        clear hS hsz hDK hDlt hJB hJx hY hJ0 hKw hst hsB hN hG hl hO hal hgd hcc hJy hSy hzy hby hgl hgt hcl hgd' hb3d hO3d hJd hSd hEGd hd3 hHeld
        gi_wp2
        refine hR.mono ?_
        rintro e W5 ⟨ho5, (⟨rfl, hj5⟩ | ⟨rfl, hj5⟩)⟩
        · have H5 := hide (And.intro ho5 hj5)
          clear ho5 hj5 hR hyy cXd
          gi_wp2
          go_roundw
          case rel =>
            obtain ⟨hS, hsz, hDK, hDlt, hJB, hJx, hY, hJ0, hKw, hst, hsB, hN, hG, hl⟩ := HJ.out
            refine ⟨i + 1, cc + 1, [], W5, by omega, by go_num, hide ⟨Ov.nil _ _, Nat.zero_le _, HRR.out.1, HRR.out.2.1, H5.out.2, ?_, Nat.le_trans HRR.out.2.2.2 H5.out.1.size, Below.refl _ _⟩⟩
            exact HRR.out.2.2.1.only hKw (by have := HRR.out.2.2.2; omega) H5.out.1 (fun j d hj => d.elim (fun d => hDK j d hj) (fun d => by have := hKw j hj; omega))
          case measure => simp [intOf]; omega
        · have H5 := hide (And.intro ho5 hj5)
          clear ho5 hj5 hR hyy cXd
          gi_wp2
          refine bodyPost_ret (results_none rfl _ _ _) rfl ?_
          exact ⟨⟨_, rfl⟩, W.heap.size, Nat.le_refl _, .inr H5.out.2⟩
    · have z1 : ¬ (i : Int) < (N : Int) := by omega
      obtain ⟨hS, hsz, hDK, hDlt, hJB, hJx, hY, hJ0, hKw, hst, hsB, hN, hG, hl⟩ := HJ.out
      obtain ⟨hO, hal, hgd, hcc, hJy, hSy, hzy, hby⟩ := HI.out
      have hE : L.drop i = [] := List.drop_of_length_le (by omega)
      rw [hE] at hgd
      have hlen : cc = G.length := by
        have h1 : (G.drop cc).length = 0 := by rw [hgd]; rfl
        rw [List.length_drop] at h1
        omega
      have HE := hide (hJB _ cc Wy wr (Nat.le_refl _) hJy (below_only hby))
      have HLN := hide hlen
      clear hS hsz hDK hDlt hJB hJx hY hJ0 hKw hst hsB hN hG hl hO hal hgd hcc hJy hSy hzy hby hE hlen
      gi_wp2
      go_end0
      exact ⟨⟨_, rfl⟩, W.heap.size, Nat.le_refl _, .inl (by rw [← HLN.out]; exact HE.out)⟩
end Go.Proofs.YtkkpdgfllnbigaaGreatDoor.Tg
