/-
  MapMakes: THE WALK WHERE THE LISTS ARE LONG, AND WHERE THE KEYS ARE NOT EACH THERE ONCE.
-/
import Derived.Test.YtleaaoknjflgoaaMakesC
import Derived.Test.YtleaaoknjflgoaaKnownW
namespace Go.Proofs.Ytleaaoknjflgoaa
open Go.RowKit Go.Shelf
set_option linter.unusedSimpArgs false

set_option maxHeartbeats 4000000 in
set_option maxRecDepth 100000 in
theorem makes_long (ka va ma : Option Addr) (N NV M kc vc mc : Nat) (key : ByteArray) (w : World) (h : 40 < N ∨ 40 < M) : Calls Try.prog 4 #[.slice ka N kc, .slice va NV vc, .slice ma M mc, .string key] w fun e w' => e = .returned (.bool true) ∧ Below w.heap.size w w' := by
  by_cases h1 : 40 < N
  · have z1 : (40 : Int) < (N : Int) := by omega
    clear h
    go_enter Try.func4, Try.ntmps4
    go_wp2_with (go_at_call 7; refine (known_any _).mono ?_; rintro e w2 ⟨rfl, b2⟩; dsimp only)
    go_ret
    exact ⟨rfl, b2⟩
  · have z1 : ¬ (40 : Int) < (N : Int) := by omega
    have z2 : decide ((40 : Int) < (N : Int)) = false := by simpa using z1
    have z3 : (40 : Int) < (M : Int) := by omega
    clear h
    go_enter Try.func4, Try.ntmps4
    go_wp2_with (go_at_call 7; refine (known_any _).mono ?_; rintro e w2 ⟨rfl, b2⟩; dsimp only)
    go_ret
    exact ⟨rfl, b2⟩

theorem ins_len {k : ByteArray} {v : Int} {l : List Nm} : (ins k v l).length = if has k l then l.length else l.length + 1 := by
  unfold ins
  have h1 := pos_le k l
  by_cases h : has k l = true
  · have h2 := has_lt h
    simp [h]; omega
  · simp [h]; omega
set_option maxHeartbeats 8000000 in
set_option maxRecDepth 100000 in
theorem makes_bad (ks : List ByteArray) (vs : List Int) (ka va ma : Option Addr) (M kc vc mc : Nat) (key : ByteArray) (w : World) (hk : Cs w (.slice ka ks.length kc) (ks.map .string)) (hv : Cs w (.slice va vs.length vc) (vs.map (.int .i64))) (h1 : ks.length ≤ 40) (h2 : M ≤ 40) (hb : ¬ (ks.length = vs.length ∧ ks.Nodup)) :
    Calls Try.prog 4 #[.slice ka ks.length kc, .slice va vs.length vc, .slice ma M mc, .string key] w fun e w' => e = .returned (.bool true) ∧ Below w.heap.size w w' := by
  have hof := of_bad ks vs _ _ w hk hv (by omega) hb
  have HKV := hide (And.intro hk (And.intro hv hb))
  obtain ⟨N, hN⟩ : ∃ N, N = ks.length := ⟨_, rfl⟩
  obtain ⟨NV, hNV⟩ : ∃ NV, NV = vs.length := ⟨_, rfl⟩
  rw [← hN, ← hNV] at hof ⊢
  rw [← hN] at h1
  have HN := hide (And.intro hN hNV)
  clear hk hv hb hN hNV
  have z1 : ¬ (40 : Int) < (N : Int) := by omega
  have z2 : decide ((40 : Int) < (N : Int)) = false := by simpa using z1
  have z3 : ¬ (40 : Int) < (M : Int) := by omega
  have z4 : decide ((40 : Int) < (M : Int)) = false := by simpa using z3
  go_enter Try.func4, Try.ntmps4
  go_upto_region 4 with (go_at_call 21; refine hof.mono ?_; rintro e w1 ⟨rfl, b1⟩; dsimp only)
  obtain ⟨wa, hwa⟩ : ∃ wa, wa = w1.alloc (.cells #[.pointer none] 26) := ⟨_, rfl⟩
  have ba1 : Below w1.heap.size w1 wa := by rw [hwa]; exact (Below.refl _ w1).alloc (Nat.le_refl _) _
  have cm : wa.cell? ⟨w1.heap.size, 0, none⟩ = some (.pointer none) := by rw [hwa]; exact cell_new w1 _ 26
  have HA := hide (b1.trans (ba1.mono b1.size))
  rw [← hwa]
  obtain ⟨B9, hB9⟩ : ∃ B9, B9 = w1.heap.size := ⟨_, rfl⟩
  rw [← hB9] at cm ⊢
  have HCM := hide cm
  clear hwa ba1 b1 hB9 hof cm
  obtain ⟨b0, hb0⟩ : ∃ b0, b0 = ((N : Int) != (NV : Int)) := ⟨_, rfl⟩
  have hb1 : b0 = true ∨ N = NV := by
    by_cases e : N = NV
    · exact .inr e
    · left; rw [hb0]; simp; omega
  have HB0 := hide hb0
  have hb2 : ((N : Int) != (NV : Int)) = b0 := hb0.symm
  clear hb0
  go_wp2
  go_loopw [11, 12, 13] (fun v11 v12 v13 wr => ∃ (i : Nat) (bad : Bool) (l : List Nm), i ≤ N ∧ v13 = .int .i64 i ∧ v11 = .bool bad ∧ (bad = true ∨ N = NV) ∧ Hid (Es wr v12 l ∧ l.length ≤ i ∧ (bad = false → PutsI ks vs i l) ∧ Below wa.heap.size wa wr)) (fun _ _ v13 _ => N - (intOf v13).toNat)
  case atStart => exact ⟨0, b0, [], by omega, rfl, by first | rfl | (rw [← hb2]; rfl) | simp [hb2], hb1, hide ⟨Es.nil _, by simp, fun _ => PutsI.none ks vs, Below.refl _ _⟩⟩
  case round =>
    obtain ⟨i, bad, l, hi, rfl, rfl, hbb, HL⟩ := hrel
    cases bad with
    | true =>
      have c0 := cell_stays HCM.out HL.out.2.2.2
      have cl := fun W => mLen_any .nil W trivial
      unfold mv at cl
      simp only [T.ptr, T.n] at cl
      have HBW := hide HL.out.2.2.2
      by_cases hiN : i < N
      · have y1 : (i : Int) < (N : Int) := by omega
        clear hbb hb1 hb2
        go_wp2_with (first
          | (go_at_call 19; refine (cl _).mono ?_; rintro e w4 ⟨rfl, b4⟩; dsimp only)
          | (go_at_call 7; refine (known_any _).mono ?_; rintro e w5 ⟨rfl, b5⟩; dsimp only))
        go_ret
        have hh := HA.out.trans (HBW.out.mono HA.out.size)
        exact ⟨by simp, (hh.trans (b4.mono hh.size)).trans (b5.mono (hh.trans (b4.mono hh.size)).size)⟩
      · have y1 : ¬ (i : Int) < (N : Int) := by omega
        have y2 : decide ((i : Int) < (N : Int)) = false := by simpa using y1
        clear hbb hb1 hb2
        go_wp2_with (first
          | (go_at_call 19; refine (cl _).mono ?_; rintro e w4 ⟨rfl, b4⟩; dsimp only)
          | (go_at_call 7; refine (known_any _).mono ?_; rintro e w5 ⟨rfl, b5⟩; dsimp only))
        go_ret
        have hh := HA.out.trans (HBW.out.mono HA.out.size)
        exact ⟨by simp, (hh.trans (b4.mono hh.size)).trans (b5.mono (hh.trans (b4.mono hh.size)).size)⟩
    | false =>
      have hNV : N = NV := by rcases hbb with h | h <;> first | exact h | cases h
      have hI := HL.out.2.2.1 rfl
      by_cases hiN : i < N
      · have y1 : (i : Int) < (N : Int) := by omega
        have y3 : (i : Int) < (NV : Int) := by omega
        obtain ⟨k, hk⟩ : ∃ k, ks[i]? = some k := ⟨ks[i]'(by rw [← HN.out.1]; exact hiN), List.getElem?_eq_getElem _⟩
        obtain ⟨v, hv⟩ : ∃ v, vs[i]? = some v := ⟨vs[i]'(by rw [← HN.out.2]; omega), List.getElem?_eq_getElem _⟩
        have bwr : Below w.heap.size w wr := HA.out.trans (HL.out.2.2.2.mono HA.out.size)
        obtain ⟨kb, ko, kc', e1, _, ck, _⟩ := (HKV.out.1.below bwr).at (j := i) (u := .string k) (by rw [List.getElem?_map, hk]; rfl)
        obtain ⟨vb, vo, vc', e2, _, cv, _⟩ := (HKV.out.2.1.below bwr).at (j := i) (u := .int .i64 v) (by rw [List.getElem?_map, hv]; rfl)
        simp only [Value.slice.injEq] at e1 e2
        obtain ⟨rfl, _, rfl⟩ := e1
        obtain ⟨rfl, _, rfl⟩ := e2
        have hll : l.length ≤ 100000 := by have := HL.out.2.1; omega
        have ca := at_any l u12 k wr HL.out.1 hll
        have HLP : Hid (∀ W, Below wr.heap.size wr W → Calls Try.prog 10 #[u12, .string k, .int .i64 v] W fun e w' => ∃ sv', e = .returned sv' ∧ Es w' sv' (ins k v l) ∧ Below W.heap.size W w') := hide (fun W hW => lput_any l u12 k v W (HL.out.1.below hW) hll)
        have HS := hide (And.intro hI (And.intro hk (And.intro hv (pos_le k l))))
        have hpl := pos_le k l
        generalize pos k l = P at *
        generalize hg : has k l = G at *
        have HG := hide hg
        clear hI hk hv bwr hg hb1 hb2
        obtain ⟨wa', hwa'⟩ : ∃ wa', wa' = wr := ⟨_, rfl⟩
        go_upto_region 10 with (go_at_call 8; refine ca.mono ?_; rintro e w2 ⟨rfl, n2, h2'⟩; have b2 : Below wr.heap.size wr w2 := (by rw [h2']; exact below_drew _ _); have q0 : w2.cell? ⟨kb, ko + i, none⟩ = some (.string k) ∧ w2.cell? ⟨vb, vo + i, none⟩ = some (.int .i64 v) ∧ Hid (Below wr.heap.size wr w2) := ⟨cell_stays ck b2, cell_stays cv b2, hide b2⟩; clear h2'; dsimp only)
        clear hwa' wa'
        have qd : w2.drew.cell? ⟨kb, ko + i, none⟩ = some (.string k) ∧ w2.drew.cell? ⟨vb, vo + i, none⟩ = some (.int .i64 v) ∧ Hid (Below wr.heap.size wr w2.drew) := ⟨q0.1, q0.2.1, hide (q0.2.2.out.trans ((drew_below w2).mono q0.2.2.out.size))⟩
        refine wp_region_held_drew (S := (fun w' => w'.cell? ⟨kb, ko + i, none⟩ = some (.string k) ∧ w'.cell? ⟨vb, vo + i, none⟩ = some (.int .i64 v) ∧ Hid (Below wr.heap.size wr w'))) (by kernel_rfl) qd (fun hHeld => ?_)
        try dsimp only at hHeld
        refine take_op (i := 0) (d := 62) (OP := Op.move (Operand.tmp 12)) (T := 27) (v := ?vzz1) rfl rfl rfl rfl (by kernel_rfl) (by kernel_rfl) (by kernel_rfl) (fun _ _ _ h => h) (by rfl) ?hzz1 hHeld ?rzz1
        case hzz1 => (intro w' hSw; (try dsimp only at hSw); go_simp <;> with_reducible rfl)
        try simp only [Act.put, List.setIfInBounds_toArray, List.set_cons_zero, List.set_cons_succ]
        refine take_op (i := 1) (d := 63) (OP := Op.move (Operand.tmp 0)) (T := 50) (v := ?vzz2) rfl rfl rfl rfl (by kernel_rfl) (by kernel_rfl) (by kernel_rfl) (fun _ _ _ h => h) (by rfl) ?hzz2 hHeld ?rzz2
        case hzz2 => (intro w' hSw; (try dsimp only at hSw); go_simp <;> with_reducible rfl)
        try simp only [Act.put, List.setIfInBounds_toArray, List.set_cons_zero, List.set_cons_succ]
        refine take_op (i := 2) (d := 64) (OP := Op.move (Operand.tmp 13)) (T := 3) (v := ?vzz3) rfl rfl rfl rfl (by kernel_rfl) (by kernel_rfl) (by kernel_rfl) (fun _ _ _ h => h) (by rfl) ?hzz3 hHeld ?rzz3
        case hzz3 => (intro w' hSw; (try dsimp only at hSw); go_simp <;> with_reducible rfl)
        try simp only [Act.put, List.setIfInBounds_toArray, List.set_cons_zero, List.set_cons_succ]
        refine take_op (i := 3) (d := 65) (OP := Op.indexAddr 50 (Operand.tmp 63) (Operand.tmp 64)) (T := 0) (v := ?vzz4) rfl rfl rfl rfl (by kernel_rfl) (by kernel_rfl) (by kernel_rfl) (fun _ _ _ h => h) (by rfl) ?hzz4 hHeld ?rzz4
        case hzz4 => (intro w' hSw; (try dsimp only at hSw); go_simp <;> with_reducible rfl)
        try simp only [Act.put, List.setIfInBounds_toArray, List.set_cons_zero, List.set_cons_succ]
        refine take_op (i := 4) (d := 66) (OP := Op.load 9 (Operand.tmp 65)) (T := 9) (v := ?vzz5) rfl rfl rfl rfl (by kernel_rfl) (by kernel_rfl) (by kernel_rfl) (fun _ _ _ h => h) (by rfl) ?hzz5 hHeld ?rzz5
        case hzz5 => (intro w' hSw; (try dsimp only at hSw); go_simp <;> with_reducible rfl)
        try simp only [Act.put, List.setIfInBounds_toArray, List.set_cons_zero, List.set_cons_succ]
        refine take_op (i := 5) (d := 67) (OP := Op.move (Operand.tmp 1)) (T := 51) (v := ?vzz6) rfl rfl rfl rfl (by kernel_rfl) (by kernel_rfl) (by kernel_rfl) (fun _ _ _ h => h) (by rfl) ?hzz6 hHeld ?rzz6
        case hzz6 => (intro w' hSw; (try dsimp only at hSw); go_simp <;> with_reducible rfl)
        try simp only [Act.put, List.setIfInBounds_toArray, List.set_cons_zero, List.set_cons_succ]
        refine take_op (i := 6) (d := 68) (OP := Op.move (Operand.tmp 13)) (T := 3) (v := ?vzz7) rfl rfl rfl rfl (by kernel_rfl) (by kernel_rfl) (by kernel_rfl) (fun _ _ _ h => h) (by rfl) ?hzz7 hHeld ?rzz7
        case hzz7 => (intro w' hSw; (try dsimp only at hSw); go_simp <;> with_reducible rfl)
        try simp only [Act.put, List.setIfInBounds_toArray, List.set_cons_zero, List.set_cons_succ]
        refine take_op (i := 7) (d := 69) (OP := Op.indexAddr 51 (Operand.tmp 67) (Operand.tmp 68)) (T := 0) (v := ?vzz8) rfl rfl rfl rfl (by kernel_rfl) (by kernel_rfl) (by kernel_rfl) (fun _ _ _ h => h) (by rfl) ?hzz8 hHeld ?rzz8
        case hzz8 => (intro w' hSw; (try dsimp only at hSw); go_simp <;> with_reducible rfl)
        try simp only [Act.put, List.setIfInBounds_toArray, List.set_cons_zero, List.set_cons_succ]
        refine take_op (i := 8) (d := 70) (OP := Op.load 3 (Operand.tmp 69)) (T := 3) (v := ?vzz9) rfl rfl rfl rfl (by kernel_rfl) (by kernel_rfl) (by kernel_rfl) (fun _ _ _ h => h) (by rfl) ?hzz9 hHeld ?rzz9
        case hzz9 => (intro w' hSw; (try dsimp only at hSw); go_simp <;> with_reducible rfl)
        try simp only [Act.put, List.setIfInBounds_toArray, List.set_cons_zero, List.set_cons_succ]
        refine call_op (i := 9) (d := 71) (OP := Op.call { callee := Callee.value (Operand.func 10), args := #[Operand.tmp 62, Operand.tmp 66, Operand.tmp 70], argTypes := #[27, 9, 3] }) (T := 27) (f := 10) (args := #[u12, .string k, .int .i64 v]) rfl rfl rfl rfl (by kernel_rfl) (by rfl) (by go_simp) ?_
        refine (HLP.out _ qd.2.2.out).mono ?_
        rintro e w3 ⟨sv', rfl, e3, b3⟩
        have qw3 : w3.cell? ⟨kb, ko + i, none⟩ = some (.string k) ∧ w3.cell? ⟨vb, vo + i, none⟩ = some (.int .i64 v) ∧ Hid (Below wr.heap.size wr w3) := ⟨cell_stays qd.1 b3, cell_stays qd.2.1 b3, hide (qd.2.2.out.trans (b3.mono qd.2.2.out.size))⟩
        refine ⟨_, rfl, qw3, ?_⟩
        replace hHeld := qw3
        try simp only [Act.put, List.setIfInBounds_toArray, List.set_cons_zero, List.set_cons_succ]
        refine take_op (i := 10) (d := 12) (OP := Op.assign (Operand.tmp 71)) (T := 27) (v := ?vzz10) rfl rfl rfl rfl (by kernel_rfl) (by kernel_rfl) (by kernel_rfl) (fun _ _ _ h => h) (by rfl) ?hzz10 hHeld ?rzz10
        case hzz10 => (intro w' hSw; (try dsimp only at hSw); go_simp <;> with_reducible rfl)
        try simp only [Act.put, List.setIfInBounds_toArray, List.set_cons_zero, List.set_cons_succ]
        refine wpAnyH_done (by kernel_rfl) ?_ _
        go_wp2
        go_roundw
        case rel => exact ⟨i + 1, G, ins k v l, by omega, by go_num, rfl, .inr hNV, hide ⟨e3, by rw [ins_len]; have := HL.out.2.1; split <;> omega, fun hgf => HS.out.1.step HS.out.2.1 HS.out.2.2.1 (HG.out.trans hgf), HL.out.2.2.2.trans (qw3.2.2.out.mono HL.out.2.2.2.size)⟩⟩
        case measure => simp [intOf]; omega
      · exfalso
        have e : i = ks.length := by have := HN.out.1; omega
        subst e
        exact HKV.out.2.2 ⟨by rw [← HN.out.1, ← HN.out.2]; exact hNV, hI.once⟩
end Go.Proofs.Ytleaaoknjflgoaa
