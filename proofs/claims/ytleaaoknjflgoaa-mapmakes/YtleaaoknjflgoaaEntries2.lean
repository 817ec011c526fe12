/-
  put AND take OF A LIST, as the statement has them.
-/
import Derived.Test.YtleaaoknjflgoaaEntries
namespace Go.Proofs.Ytleaaoknjflgoaa
open Go.RowKit Go.Shelf
set_option linter.unusedSimpArgs false

theorem wpList_turn {P : Program} {ops : Array Oper} {rest : List Oper} {o : Oper} {a : Act} {w w' : World} {Q : Exit → Act → World → Prop} {OP : Op} {T : TypeId} {v : Value} (hgd : o.guard = none) (ho : o.op = OP) (ht : o.type = T)
    (hy : (execOp a.eval { dst := none, op := OP, type := T, pos := "", after := #[], guard := none }).run P w = .ok (.value v) w') (h : wpList P ops Q rest (a.put o.dst v) w') : wpList P ops Q (o :: rest) a w :=
  wpList_plain hgd fun K hK => by
    unfold Oper.wp
    rw [exec_same a.eval o ho ht, hy]
    exact hK _ _ h
theorem has_lt {k : ByteArray} {l : List Nm} (h : has k l = true) : pos k l < l.length := by
  obtain ⟨v, hv⟩ := has_mem h
  exact (List.getElem?_eq_some_iff.1 hv).1
theorem cells_ent (w : World) (x : Nm) : RnO (w.alloc (.cells #[.string x.1, .int .i64 x.2] 44)) (some ⟨w.heap.size, 0, none⟩) [x] := ⟨by simp, fun a ha j u hj => by
  cases ha
  have hh := heap_alloc_new w (.cells #[.string x.1, .int .i64 x.2] 44)
  rw [add_lit]
  match j, hj with
  | 0, hj => simp [flatN, encN] at hj; subst hj; rw [cell_of_row _ _ _ _ 44 (0, 0) hh]; rfl
  | 1, hj => simp [flatN, encN] at hj; subst hj; rw [cell_of_row _ _ _ _ 44 (0, 0) hh]; rfl⟩

set_option maxHeartbeats 2000000 in
set_option maxRecDepth 100000 in
theorem lput_any (l : List Nm) (sv : Value) (k : ByteArray) (v : Int) (w : World) (h : Es w sv l) (hl : l.length ≤ 100000) : Calls Try.prog 10 #[sv, .string k, .int .i64 v] w fun e w' => ∃ sv', e = .returned sv' ∧ Es w' sv' (ins k v l) ∧ Below w.heap.size w w' := by
  have hat := at_any l sv k w h hl
  obtain ⟨ao, cap, rfl, hr, hc, hn, ha⟩ := h.ex
  have hpl := pos_le k l
  have hprep : ∀ n, ∃ A a1 c1 w2 a2 c2 w3 B a3 c3 w4,
      (∀ W, (Instr.slice 27 (.slice ao l.length cap) none (some (.int .i64 (pos k l : Nat))) none).run Try.prog W = .ok (.slice A (pos k l) cap) W) ∧
      (Builtin.append_ #[27, 27] 27 #[.slice none 0 0, .slice A (pos k l) cap]).run Try.prog (w.drewN n) = .ok (.slice a1 (pos k l) c1) w2 ∧
      (Builtin.append_ #[27, 27] 27 #[.slice a1 (pos k l) c1, .slice (some ⟨w2.heap.size, 0, none⟩) 1 1]).run Try.prog (w2.alloc (.cells #[.string k, .int .i64 v] 44)) = .ok (.slice a2 (pos k l + 1) c2) w3 ∧
      (∀ W, (Instr.slice 27 (.slice ao l.length cap) (some (.int .i64 ((if has k l then pos k l + 1 else pos k l : Nat) : Int))) none none).run Try.prog W = .ok (.slice B (l.length - (if has k l then pos k l + 1 else pos k l)) (cap - (if has k l then pos k l + 1 else pos k l))) W) ∧
      (Builtin.append_ #[27, 27] 27 #[.slice a2 (pos k l + 1) c2, .slice B (l.length - (if has k l then pos k l + 1 else pos k l)) (cap - (if has k l then pos k l + 1 else pos k l))]).run Try.prog w3 = .ok (.slice a3 (ins k v l).length c3) w4 ∧
      Hid (Es w4 (.slice a3 (ins k v l).length c3) (ins k v l) ∧ Below w.heap.size w w4) := fun n => by
    obtain ⟨Q, hQ⟩ : ∃ Q, Q = (if has k l then pos k l + 1 else pos k l) := ⟨_, rfl⟩
    have hQl : Q ≤ l.length := by
      rw [hQ]; split
      · exact has_lt (by assumption)
      · exact hpl
    rw [← hQ]
    have hb0 := below_drew w n
    obtain ⟨A, hA1, hA2, hA3⟩ := slice_hi (hr.below hb0) hpl hc ha
    have htk : (l.take (pos k l)).length = pos k l := by rw [List.length_take]; omega
    have ap1 := app_ents (w := w.drewN n) (B := w.heap.size) (v := .slice none 0 0) (p := []) (l := l.take (pos k l)) (ao := A) (c := cap) (On.nil _ _) (fun e => hn (hA3 e)) hA2 (by simp; omega) (Nat.le_refl _)
    simp only [List.nil_append, htk] at ap1
    obtain ⟨a1, c1, w2, r1, hO1, b1⟩ := ap1
    have hs2 : w.heap.size ≤ w2.heap.size := b1.size
    have ha2 : Below w2.heap.size w2 (w2.alloc (.cells #[.string k, .int .i64 v] 44)) := (Below.refl _ w2).alloc (Nat.le_refl _) _
    have ap2 := app_ents (w := w2.alloc (.cells #[.string k, .int .i64 v] 44)) (B := w.heap.size) (p := l.take (pos k l)) (l := [(k, v)]) (ao := some ⟨w2.heap.size, 0, none⟩) (c := 1) (hO1.below ha2) (by simp) (cells_ent w2 (k, v)) (by simp; omega) (Nat.le_trans hs2 ha2.size)
    simp only [List.length_append, htk, List.length_singleton] at ap2
    obtain ⟨a2, c2, w3, r2, hO2, b2⟩ := ap2
    have b2' : Below w.heap.size w w3 := (hb0.trans b1).trans ((ha2.mono hs2).trans b2)
    obtain ⟨B, hB1, hB2, hB3⟩ := slice_lo (hr.below b2') hQl hc ha
    have hdl : (l.drop Q).length = l.length - Q := by simp
    have ap3 := app_ents (w := w3) (B := w.heap.size) (p := l.take (pos k l) ++ [(k, v)]) (l := l.drop Q) (ao := B) (c := cap - Q) hO2 (fun e => by rw [hn (hB3 e)]; omega) hB2 (by simp; omega) b2'.size
    rw [hdl] at ap3
    have hins : l.take (pos k l) ++ [(k, v)] ++ l.drop Q = ins k v l := by rw [hQ]; simp [ins]
    rw [hins] at ap3
    obtain ⟨a3, c3, w4, r3, hO3, b3⟩ := ap3
    exact ⟨A, a1, c1, w2, a2, c2, w3, B, a3, c3, w4, hA1, r1, r2, hB1, r3, hide ⟨hO3.es, b2'.trans b3⟩⟩
  have HP := hide hprep
  have hps : pos k l ≤ 100000 := by omega
  have hh1 : has k l = true → pos k l < l.length := has_lt
  clear hprep hr hc hn ha h
  generalize hI : (ins k v l).length = I at *
  have HI := hide hI
  clear hI
  cases hG : has k l with
  | false =>
    rw [hG] at hat HP
    simp only [if_neg Bool.false_ne_true] at HP
    generalize pos k l = P at *
    clear hG hh1
    go_enter Try.func10, Try.ntmps10
    go_wp2_with (first
      | (go_at_call 8; refine hat.mono ?_; rintro e w' ⟨rfl, n, rfl⟩; obtain ⟨A, a1, c1, w2, a2, c2, w3, B, a3, c3, w4, s1, r1, r2, s2, r3, HE⟩ := HP.out n)
      | (at_builtin; refine wpList_turn (OP := .call { callee := .builtin .append, args := #[.tmp 16, .tmp 19], argTypes := #[27, 27] }) (T := 27) rfl rfl rfl (exec_append rfl rfl r1) ?_)
      | (at_builtin; refine wpList_turn (OP := .call { callee := .builtin .append, args := #[.tmp 21, .tmp 25], argTypes := #[27, 27] }) (T := 27) rfl rfl rfl (exec_append rfl rfl r2) ?_)
      | (at_builtin; refine wpList_turn (OP := .call { callee := .builtin .append, args := #[.tmp 30, .tmp 33], argTypes := #[27, 27] }) (T := 27) rfl rfl rfl (exec_append rfl rfl r3) ?_))
    go_ret
    exact ⟨_, rfl, HE.out.1, HE.out.2⟩
  | true =>
    rw [hG] at hat HP
    simp only [if_true] at HP
    have w1 : ((pos k l + 1 : Nat) : Int) = (pos k l : Int) + 1 := by omega
    rw [w1] at HP
    generalize pos k l = P at *
    clear hG hh1 w1
    go_enter Try.func10, Try.ntmps10
    go_wp2_with (first
      | (go_at_call 8; refine hat.mono ?_; rintro e w' ⟨rfl, n, rfl⟩; obtain ⟨A, a1, c1, w2, a2, c2, w3, B, a3, c3, w4, s1, r1, r2, s2, r3, HE⟩ := HP.out n)
      | (at_builtin; refine wpList_turn (OP := .call { callee := .builtin .append, args := #[.tmp 16, .tmp 19], argTypes := #[27, 27] }) (T := 27) rfl rfl rfl (exec_append rfl rfl r1) ?_)
      | (at_builtin; refine wpList_turn (OP := .call { callee := .builtin .append, args := #[.tmp 21, .tmp 25], argTypes := #[27, 27] }) (T := 27) rfl rfl rfl (exec_append rfl rfl r2) ?_)
      | (at_builtin; refine wpList_turn (OP := .call { callee := .builtin .append, args := #[.tmp 30, .tmp 33], argTypes := #[27, 27] }) (T := 27) rfl rfl rfl (exec_append rfl rfl r3) ?_))
    go_ret
    exact ⟨_, rfl, HE.out.1, HE.out.2⟩

set_option maxHeartbeats 2000000 in
set_option maxRecDepth 100000 in
theorem ltake_any (l : List Nm) (sv : Value) (k : ByteArray) (w : World) (h : Es w sv l) (hl : l.length ≤ 100000) : Calls Try.prog 14 #[sv, .string k] w fun e w' => ∃ sv', e = .returned sv' ∧ Es w' sv' (del k l) ∧ Below w.heap.size w w' := by
  have hat := at_any l sv k w h hl
  have HES := hide h
  obtain ⟨ao, cap, rfl, hr, hc, hn, ha⟩ := h.ex
  have hpl := pos_le k l
  cases hG : has k l with
  | false =>
    have hd : del k l = l := by unfold del; rw [hG]; rfl
    rw [hd]
    rw [hG] at hat
    generalize pos k l = P at *
    clear hd hG hr hc hn ha h
    generalize hN : l.length = N at *
    clear hN
    go_enter Try.func14, Try.ntmps14
    go_wp2_with (go_at_call 8; refine hat.mono ?_; rintro e w' ⟨rfl, n, rfl⟩)
    go_ret
    exact ⟨_, rfl, HES.out.below (below_drew w n), below_drew w n⟩
  | true =>
    have hQl := has_lt hG
    have hprep : ∀ n, ∃ A a1 c1 w2 B a3 c3 w4,
        (∀ W, (Instr.slice 27 (.slice ao l.length cap) none (some (.int .i64 (pos k l : Nat))) none).run Try.prog W = .ok (.slice A (pos k l) cap) W) ∧
        (Builtin.append_ #[27, 27] 27 #[.slice none 0 0, .slice A (pos k l) cap]).run Try.prog (w.drewN n) = .ok (.slice a1 (pos k l) c1) w2 ∧
        (∀ W, (Instr.slice 27 (.slice ao l.length cap) (some (.int .i64 ((pos k l : Int) + 1))) none none).run Try.prog W = .ok (.slice B (l.length - (pos k l + 1)) (cap - (pos k l + 1))) W) ∧
        (Builtin.append_ #[27, 27] 27 #[.slice a1 (pos k l) c1, .slice B (l.length - (pos k l + 1)) (cap - (pos k l + 1))]).run Try.prog w2 = .ok (.slice a3 (del k l).length c3) w4 ∧
        Hid (Es w4 (.slice a3 (del k l).length c3) (del k l) ∧ Below w.heap.size w w4) := fun n => by
      have hb0 := below_drew w n
      obtain ⟨A, hA1, hA2, hA3⟩ := slice_hi (hr.below hb0) hpl hc ha
      have htk : (l.take (pos k l)).length = pos k l := by rw [List.length_take]; omega
      have ap1 := app_ents (w := w.drewN n) (B := w.heap.size) (v := .slice none 0 0) (p := []) (l := l.take (pos k l)) (ao := A) (c := cap) (On.nil _ _) (fun e => hn (hA3 e)) hA2 (by simp; omega) (Nat.le_refl _)
      simp only [List.nil_append, htk] at ap1
      obtain ⟨a1, c1, w2, r1, hO1, b1⟩ := ap1
      have b2' : Below w.heap.size w w2 := hb0.trans b1
      obtain ⟨B, hB1, hB2, hB3⟩ := slice_lo (n := pos k l + 1) (hr.below b2') hQl hc ha
      have w1 : ((pos k l + 1 : Nat) : Int) = (pos k l : Int) + 1 := by omega
      rw [w1] at hB1
      have hdl : (l.drop (pos k l + 1)).length = l.length - (pos k l + 1) := by simp
      have ap3 := app_ents (w := w2) (B := w.heap.size) (p := l.take (pos k l)) (l := l.drop (pos k l + 1)) (ao := B) (c := cap - (pos k l + 1)) hO1 (fun e => by rw [hn (hB3 e)]; omega) hB2 (by simp; omega) b2'.size
      rw [hdl] at ap3
      have hdel : l.take (pos k l) ++ l.drop (pos k l + 1) = del k l := by unfold del; rw [hG]; rfl
      rw [hdel] at ap3
      obtain ⟨a3, c3, w4, r3, hO3, b3⟩ := ap3
      exact ⟨A, a1, c1, w2, B, a3, c3, w4, hA1, r1, hB1, r3, hide ⟨hO3.es, b2'.trans b3⟩⟩
    have HP := hide hprep
    have hps : pos k l ≤ 100000 := by omega
    clear hprep hr hc hn ha h HES
    generalize hI : (del k l).length = I at *
    have HI := hide hI
    clear hI
    rw [hG] at hat
    generalize pos k l = P at *
    clear hG
    go_enter Try.func14, Try.ntmps14
    go_wp2_with (first
      | (go_at_call 8; refine hat.mono ?_; rintro e w' ⟨rfl, n, rfl⟩; obtain ⟨A, a1, c1, w2, B, a3, c3, w4, s1, r1, s2, r3, HE⟩ := HP.out n)
      | (at_builtin; refine wpList_turn (OP := .call { callee := .builtin .append, args := #[.tmp 17, .tmp 20], argTypes := #[27, 27] }) (T := 27) rfl rfl rfl (exec_append rfl rfl r1) ?_)
      | (at_builtin; refine wpList_turn (OP := .call { callee := .builtin .append, args := #[.tmp 22, .tmp 26], argTypes := #[27, 27] }) (T := 27) rfl rfl rfl (exec_append rfl rfl r3) ?_))
    go_ret
    exact ⟨_, rfl, HE.out.1, HE.out.2⟩
end Go.Proofs.Ytleaaoknjflgoaa
