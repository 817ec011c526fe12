/-
  half: THE CLOSURE OF Of: a tree out of places, halves by halves.
  Of: A MAP OUT OF KEYS AND VALUES.
-/
import Derived.Test.YtkkpdgfllnbigaaGreatMg12
namespace Go.Proofs.YtkkpdgfllnbigaaGreat.Pm
open Go.RowKit Go.Shelf
set_option linter.unusedSimpArgs false

abbrev Nm := ByteArray × ByteArray
def hgt (n : Nat) : Nat := if h : n = 0 then 0 else hgt (n / 2) + 1
decreasing_by omega
theorem hgt_zero : hgt 0 = 0 := by rw [hgt]; rfl
theorem hgt_pos {n : Nat} (h : n ≠ 0) : hgt n = hgt (n / 2) + 1 := by rw [hgt, dif_neg h]
theorem hgt_mono (n : Nat) : ∀ m, m ≤ n → hgt m ≤ hgt n := by
  induction n using Nat.strongRecOn with
  | ind n ih =>
    intro m hm
    by_cases h0 : m = 0
    · rw [h0, hgt_zero]; omega
    · rw [hgt_pos h0, hgt_pos (n := n) (by omega)]
      have := ih (n / 2) (by omega) (m / 2) (by omega)
      omega
theorem hgt_succ (n : Nat) : hgt (n + 1) ≤ hgt n + 1 := by
  induction n using Nat.strongRecOn with
  | ind n ih =>
    by_cases h0 : n = 0
    · subst h0; rw [hgt_pos (by omega)]; simp [hgt_zero]
    · rw [hgt_pos (n := n + 1) (by omega), hgt_pos h0]
      by_cases hp : (n + 1) / 2 = n / 2
      · rw [hp]; omega
      · have e : (n + 1) / 2 = n / 2 + 1 := by omega
        rw [e]
        have := ih (n / 2) (by omega)
        omega
theorem halves {n m : Nat} (h0 : n ≠ 0) (hm : m = n / 2) : hgt n = max (hgt m) (hgt (n - (m + 1))) + 1 ∧ hgt m ≤ hgt (n - (m + 1)) + 1 ∧ hgt (n - (m + 1)) ≤ hgt m + 1 := by
  have h1 := hgt_mono m (n - (m + 1)) (by omega)
  have h2 := hgt_mono (n - (m + 1) + 1) m (by omega)
  have h3 := hgt_succ (n - (m + 1))
  rw [hgt_pos h0, ← hm]
  refine ⟨?_, ?_, ?_⟩
  · rw [Nat.max_eq_left h1]
  · omega
  · omega
theorem slice51_hi {g o n m cap : Nat} (hm : m ≤ cap) (hc : 0 < cap) (w' : World) : (Instr.slice 156 (.slice (some ⟨g, o, none⟩) n cap) none (some (.int .i64 (m : Nat))) none).run Tryz.prog w' = .ok (.slice (some ⟨g, o, none⟩) m cap) w' := by
  have h2 : (0 : Int) ≤ (m : Int) ∧ (m : Int) ≤ (cap : Int) := by omega
  have h3 : ¬ cap = 0 := by omega
  simp [Instr.slice, Instr.sliceBounds, Instr.sliceBound, asIntOf, run_underlying Tryz.underlying156, go_sem, hm, h3, Tryz.sizeOf3, add_lit]
theorem slice51_lo {g o n m cap : Nat} (hm : m ≤ n) (hc : n ≤ cap) (w' : World) : (Instr.slice 156 (.slice (some ⟨g, o, none⟩) n cap) (some (.int .i64 (m : Nat))) none none).run Tryz.prog w' = .ok (.slice (some ⟨g, (if cap = m then o else o + m), none⟩) (n - m) (cap - m)) w' := by
  have hcm : m ≤ cap := Nat.le_trans hm hc
  have h2 : (0 : Int) ≤ (m : Int) ∧ (m : Int) ≤ (n : Int) := by omega
  by_cases h : cap = m
  · simp [Instr.slice, Instr.sliceBounds, Instr.sliceBound, asIntOf, run_underlying Tryz.underlying156, go_sem, hm, hcm, Tryz.sizeOf3, add_lit, h]
  · simp [Instr.slice, Instr.sliceBounds, Instr.sliceBound, asIntOf, run_underlying Tryz.underlying156, go_sem, hm, hcm, Tryz.sizeOf3, add_lit, h]

/-- What the closure has. -/
structure HEnv (W : World) (F K V : Nat) (ks : List ByteArray) (vs : List ByteArray) : Prop where
  f : W.cell? ⟨F, 0, none⟩ = some (.func (.func 167) #[] #[.pointer (some ⟨F, 0, none⟩), .pointer (some ⟨K, 0, none⟩), .pointer (some ⟨V, 0, none⟩)])
  k : ∃ kv, W.cell? ⟨K, 0, none⟩ = some kv ∧ Cs W kv (ks.map .string)
  v : ∃ vv, W.cell? ⟨V, 0, none⟩ = some vv ∧ Cs W vv (vs.map .string)
theorem HEnv.below {W W' : World} {F K V : Nat} {ks : List ByteArray} {vs : List ByteArray} (h : HEnv W F K V ks vs) (hb : Below W.heap.size W W') : HEnv W' F K V ks vs := by
  obtain ⟨kv, k1, k2⟩ := h.k
  obtain ⟨vv, v1, v2⟩ := h.v
  exact ⟨cell_stays h.f hb, ⟨kv, cell_stays k1 hb, k2.below hb⟩, ⟨vv, cell_stays v1 hb, v2.below hb⟩⟩
def ent (ks : List ByteArray) (vs : List ByteArray) (i : Nat) : Nm := (ks[i]?.getD ⟨#[]⟩, vs[i]?.getD ⟨#[]⟩)
theorem Cs.at {w : World} {v : Value} {l : List Value} {j : Nat} {u : Value} (h : Cs w v l) (hj : l[j]? = some u) : ∃ b off cap, v = .slice (some ⟨b, off, none⟩) l.length cap ∧ l.length ≤ cap ∧ w.cell? ⟨b, off + j, none⟩ = some u ∧ ∀ i u, l[i]? = some u → w.cell? ⟨b, off + i, none⟩ = some u := by
  obtain ⟨ao, cap, rfl, hc, hr⟩ := h.ex
  obtain ⟨b, off, rfl, h1⟩ := hr j u hj
  exact ⟨b, off, cap, rfl, hc, h1, fun i u hi => by
    obtain ⟨b', off', e, h2⟩ := hr i u hi
    simp only [Option.some.injEq, Addr.mk.injEq] at e
    obtain ⟨rfl, rfl, _⟩ := e
    exact h2⟩

set_option maxHeartbeats 4000000 in
set_option maxRecDepth 100000 in
theorem half_any (F K V : Nat) (ks : List ByteArray) (vs : List ByteArray) (hkv : ks.length = vs.length) : ∀ (n : Nat) (p : List Nat) (sv : Value) (W : World), p.length = n → n ≤ 100000 → (∀ i ∈ p, i < ks.length) → HEnv W F K V ks vs → Cs W sv (p.map fun i => .int .i64 ((i : Nat) : Int)) →
    Calls Tryz.prog 167 #[sv, .pointer (some ⟨F, 0, none⟩), .pointer (some ⟨K, 0, none⟩), .pointer (some ⟨V, 0, none⟩)] W fun e w' => ∃ t, Gives W e w' t ∧ t.list = p.map (ent ks vs) ∧ t.h = hgt n ∧ t.bal ∧ t.over W.heap.size := by
  intro n
  induction n using Nat.strongRecOn with
  | ind n ih =>
  intro p sv W hpn hn hp henv hcs
  by_cases h0 : n = 0
  · subst h0
    have hp0 : p = [] := List.eq_nil_of_length_eq_zero hpn
    subst hp0
    obtain ⟨ao, cap, rfl, _, _⟩ := hcs.ex
    simp only [List.map_nil, List.length_nil]
    go_enter Tryz.func167, Tryz.ntmps167
    go_wp2
    go_ret
    exact ⟨.nil, ⟨rfl, trivial, Below.refl _ _⟩, rfl, hgt_zero.symm, trivial, T.over_nil⟩
  · obtain ⟨m, hm⟩ : ∃ m, m = n / 2 := ⟨_, rfl⟩
    have hmn : m < n := by omega
    obtain ⟨x, hx⟩ : ∃ x, p[m]? = some x := ⟨p[m]'(by omega), List.getElem?_eq_getElem _⟩
    have hxk := hp x (List.mem_of_getElem? hx)
    obtain ⟨kx, hkx⟩ : ∃ y, ks[x]? = some y := ⟨ks[x]'hxk, List.getElem?_eq_getElem _⟩
    obtain ⟨vx, hvx⟩ : ∃ y, vs[x]? = some y := ⟨vs[x]'(by omega), List.getElem?_eq_getElem _⟩
    obtain ⟨g, o, cap, rfl, hcap, hcx, hca⟩ := hcs.at (j := m) (u := .int .i64 ((x : Nat) : Int)) (by rw [List.getElem?_map, hx]; rfl)
    obtain ⟨kv, k1, k2⟩ := henv.k
    obtain ⟨vv, v1, v2⟩ := henv.v
    obtain ⟨kb, ko, kc, rfl, hkc, hck, _⟩ := k2.at (j := x) (u := .string kx) (by rw [List.getElem?_map, hkx]; rfl)
    obtain ⟨vb, vo, vc, rfl, hvc, hcv, _⟩ := v2.at (j := x) (u := .string vx) (by rw [List.getElem?_map, hvx]; rfl)
    rw [List.length_map] at *
    rw [hpn] at hcap hcs ⊢
    have hL1 : ∀ w', Below W.heap.size W w' → Calls Tryz.prog 167 #[.slice (some ⟨g, o, none⟩) m cap, .pointer (some ⟨F, 0, none⟩), .pointer (some ⟨K, 0, none⟩), .pointer (some ⟨V, 0, none⟩)] w' fun e w'' => ∃ t, Gives w' e w'' t ∧ t.list = (p.take m).map (ent ks vs) ∧ t.h = hgt m ∧ t.bal ∧ t.over w'.heap.size := fun w' hw' => by
      refine ih m hmn (p.take m) _ w' (by rw [List.length_take]; omega) (by omega) (fun i hi => hp i (List.mem_of_mem_take hi)) (henv.below hw') ⟨some ⟨g, o, none⟩, cap, by simp [List.length_take, hpn]; omega, by simp [List.length_take]; omega, fun j u hj => ⟨g, o, rfl, ?_⟩⟩
      rw [List.map_take, List.getElem?_take] at hj
      split at hj
      · exact cell_stays (hca j u hj) hw'
      · cases hj
    have hL2 : ∀ w', Below W.heap.size W w' → Calls Tryz.prog 167 #[.slice (some ⟨g, (if cap = m + 1 then o else o + (m + 1)), none⟩) (n - (m + 1)) (cap - (m + 1)), .pointer (some ⟨F, 0, none⟩), .pointer (some ⟨K, 0, none⟩), .pointer (some ⟨V, 0, none⟩)] w' fun e w'' => ∃ t, Gives w' e w'' t ∧ t.list = (p.drop (m + 1)).map (ent ks vs) ∧ t.h = hgt (n - (m + 1)) ∧ t.bal ∧ t.over w'.heap.size := fun w' hw' => by
      refine ih (n - (m + 1)) (by omega) (p.drop (m + 1)) _ w' (by rw [List.length_drop, hpn]) (by omega) (fun i hi => hp i (List.mem_of_mem_drop hi)) (henv.below hw') ⟨some ⟨g, (if cap = m + 1 then o else o + (m + 1)), none⟩, cap - (m + 1), by simp [hpn], by simp [hpn]; omega, fun j u hj => ⟨g, (if cap = m + 1 then o else o + (m + 1)), rfl, ?_⟩⟩
      rw [List.map_drop, List.getElem?_drop] at hj
      have hlt := (List.getElem?_eq_some_iff.1 hj).1
      rw [List.length_map, hpn] at hlt
      rw [if_neg (by omega), Nat.add_assoc]
      exact cell_stays (hca (m + 1 + j) u hj) hw'
    have q0 : W.cell? ⟨F, 0, none⟩ = some (.func (.func 167) #[] #[.pointer (some ⟨F, 0, none⟩), .pointer (some ⟨K, 0, none⟩), .pointer (some ⟨V, 0, none⟩)]) ∧ W.cell? ⟨K, 0, none⟩ = some (.slice (some ⟨kb, ko, none⟩) ks.length kc) ∧ W.cell? ⟨V, 0, none⟩ = some (.slice (some ⟨vb, vo, none⟩) ks.length vc) ∧ W.cell? ⟨g, o + m, none⟩ = some (.int .i64 (x : Nat)) ∧ W.cell? ⟨kb, ko + x, none⟩ = some (.string kx) ∧ W.cell? ⟨vb, vo + x, none⟩ = some (.string vx) ∧ Hid (Below W.heap.size W W) := ⟨henv.f, k1, by rw [hkv]; exact v1, hcx, hck, hcv, hide (Below.refl _ _)⟩
    have s1 := fun w' => slice51_hi (g := g) (o := o) (n := n) (m := m) (cap := cap) (by omega) (by omega) w'
    have s2 := fun w' => slice51_lo (g := g) (o := o) (n := n) (m := m + 1) (cap := cap) (by omega) (by omega) w'
    have w1 : ((m + 1 : Nat) : Int) = (m : Int) + 1 := by omega
    rw [w1] at s2
    generalize (if cap = m + 1 then o else o + (m + 1)) = O at hL2 s2
    have HL1 := hide hL1
    have HL2 := hide hL2
    have HE : Hid ((ent ks vs x) = (kx, vx)) := hide (by unfold ent; rw [hkx, hvx]; rfl)
    have HN := hide (And.intro hpn (And.intro hn (And.intro hmn (And.intro hm (And.intro h0 hx)))))
    obtain ⟨S, hS⟩ : ∃ S, S = ks.length := ⟨_, rfl⟩
    rw [← hS] at q0 hxk
    have hq : Int.tdiv (n : Int) 2 = (m : Int) := by rw [hm, Int.tdiv_eq_ediv_of_nonneg (by omega)]; omega
    have w5 : IntKind.i64.wrap ((m : Int) + 1) = (m : Int) + 1 := by rw [IntKind.wrap_i64]; omega
    have z0 : ¬ ((n : Int) = 0) := by omega
    have z00 : ((n : Int) == 0) = false := by simpa using z0
    have z1 : (m : Int) < (n : Int) := by omega
    have z2 : (x : Int) < (S : Int) := by omega
    obtain ⟨wb, hwb⟩ : ∃ wb, wb = W := ⟨_, rfl⟩
    rw [← hwb] at q0 HL1 HL2 ⊢
    clear hL1 hL2 hcs hca hcx hck hcv henv k1 k2 v1 v2 hkx hvx hx hS hkc hvc hkv ih hp hm hwb w1
    go_enter Tryz.func167, Tryz.ntmps167
    go_upto_region 4 with (fail)

    have qd : wb.drew.cell? ⟨F, 0, none⟩ = some (.func (.func 167) #[] #[.pointer (some ⟨F, 0, none⟩), .pointer (some ⟨K, 0, none⟩), .pointer (some ⟨V, 0, none⟩)]) ∧ wb.drew.cell? ⟨K, 0, none⟩ = some (.slice (some ⟨kb, ko, none⟩) S kc) ∧ wb.drew.cell? ⟨V, 0, none⟩ = some (.slice (some ⟨vb, vo, none⟩) S vc) ∧ wb.drew.cell? ⟨g, o + m, none⟩ = some (.int .i64 (x : Nat)) ∧ wb.drew.cell? ⟨kb, ko + x, none⟩ = some (.string kx) ∧ wb.drew.cell? ⟨vb, vo + x, none⟩ = some (.string vx) ∧ Hid (Below wb.heap.size wb wb.drew) := ⟨q0.1, q0.2.1, q0.2.2.1, q0.2.2.2.1, q0.2.2.2.2.1, q0.2.2.2.2.2.1, hide (q0.2.2.2.2.2.2.out.trans ((drew_below wb).mono q0.2.2.2.2.2.2.out.size))⟩
    refine wp_region_held_drew (S := (fun w' => w'.cell? ⟨F, 0, none⟩ = some (.func (.func 167) #[] #[.pointer (some ⟨F, 0, none⟩), .pointer (some ⟨K, 0, none⟩), .pointer (some ⟨V, 0, none⟩)]) ∧ w'.cell? ⟨K, 0, none⟩ = some (.slice (some ⟨kb, ko, none⟩) S kc) ∧ w'.cell? ⟨V, 0, none⟩ = some (.slice (some ⟨vb, vo, none⟩) S vc) ∧ w'.cell? ⟨g, o + m, none⟩ = some (.int .i64 (x : Nat)) ∧ w'.cell? ⟨kb, ko + x, none⟩ = some (.string kx) ∧ w'.cell? ⟨vb, vo + x, none⟩ = some (.string vx) ∧ Hid (Below wb.heap.size wb w'))) (by kernel_rfl) qd (fun hHeld => ?_)
    try dsimp only at hHeld
    refine take_op (i := 0) (d := 13) (OP := Op.load 158 (Operand.tmp 1)) (T := 158) (v := ?v1) rfl rfl rfl rfl (by kernel_rfl) (by kernel_rfl) (by kernel_rfl) (fun _ _ _ h => h) (by rfl) ?h1 hHeld ?r1
    case h1 => (intro w' hSw; (try dsimp only at hSw); go_simp <;> with_reducible rfl)
    try simp only [Act.put, sI, sZ, sS]
    refine take_op (i := 1) (d := 14) (OP := Op.move (Operand.tmp 0)) (T := 156) (v := ?v2) rfl rfl rfl rfl (by kernel_rfl) (by kernel_rfl) (by kernel_rfl) (fun _ _ _ h => h) (by rfl) ?h2 hHeld ?r2
    case h2 => (intro w' hSw; (try dsimp only at hSw); go_simp <;> with_reducible rfl)
    try simp only [Act.put, sI, sZ, sS]
    refine take_op (i := 2) (d := 15) (OP := Op.move (Operand.tmp 6)) (T := 3) (v := ?v3) rfl rfl rfl rfl (by kernel_rfl) (by kernel_rfl) (by kernel_rfl) (fun _ _ _ h => h) (by rfl) ?h3 hHeld ?r3
    case h3 => (intro w' hSw; (try dsimp only at hSw); go_simp <;> with_reducible rfl)
    try simp only [Act.put, sI, sZ, sS]
    refine take_op (i := 3) (d := 16) (OP := Op.slice 156 (Operand.tmp 14) none (some (Operand.tmp 15)) none) (T := 156) (v := ?v4) rfl rfl rfl rfl (by kernel_rfl) (by kernel_rfl) (by kernel_rfl) (fun _ _ _ h => h) (by rfl) ?h4 hHeld ?r4
    case h4 => (intro w' hSw; (try dsimp only at hSw); go_simp <;> with_reducible rfl)
    try simp only [Act.put, sI, sZ, sS]
    refine take_op (i := 5) (d := 18) (OP := Op.load 63 (Operand.tmp 2)) (T := 63) (v := ?v5) rfl rfl rfl rfl (by kernel_rfl) (by kernel_rfl) (by kernel_rfl) (fun _ _ _ h => h) (by rfl) ?h5 hHeld ?r5
    case h5 => (intro w' hSw; (try dsimp only at hSw); go_simp <;> with_reducible rfl)
    try simp only [Act.put, sI, sZ, sS]
    refine take_op (i := 6) (d := 19) (OP := Op.move (Operand.tmp 0)) (T := 156) (v := ?v6) rfl rfl rfl rfl (by kernel_rfl) (by kernel_rfl) (by kernel_rfl) (fun _ _ _ h => h) (by rfl) ?h6 hHeld ?r6
    case h6 => (intro w' hSw; (try dsimp only at hSw); go_simp <;> with_reducible rfl)
    try simp only [Act.put, sI, sZ, sS]
    refine take_op (i := 7) (d := 20) (OP := Op.move (Operand.tmp 6)) (T := 3) (v := ?v7) rfl rfl rfl rfl (by kernel_rfl) (by kernel_rfl) (by kernel_rfl) (fun _ _ _ h => h) (by rfl) ?h7 hHeld ?r7
    case h7 => (intro w' hSw; (try dsimp only at hSw); go_simp <;> with_reducible rfl)
    try simp only [Act.put, sI, sZ, sS]
    refine take_op (i := 8) (d := 21) (OP := Op.indexAddr 156 (Operand.tmp 19) (Operand.tmp 20)) (T := 0) (v := ?v8) rfl rfl rfl rfl (by kernel_rfl) (by kernel_rfl) (by kernel_rfl) (fun _ _ _ h => h) (by rfl) ?h8 hHeld ?r8
    case h8 => (intro w' hSw; (try dsimp only at hSw); go_simp <;> with_reducible rfl)
    try simp only [Act.put, sI, sZ, sS]
    refine take_op (i := 9) (d := 22) (OP := Op.load 3 (Operand.tmp 21)) (T := 3) (v := ?v9) rfl rfl rfl rfl (by kernel_rfl) (by kernel_rfl) (by kernel_rfl) (fun _ _ _ h => h) (by rfl) ?h9 hHeld ?r9
    case h9 => (intro w' hSw; (try dsimp only at hSw); go_simp <;> with_reducible rfl)
    try simp only [Act.put, sI, sZ, sS]
    refine take_op (i := 10) (d := 23) (OP := Op.indexAddr 63 (Operand.tmp 18) (Operand.tmp 22)) (T := 0) (v := ?v10) rfl rfl rfl rfl (by kernel_rfl) (by kernel_rfl) (by kernel_rfl) (fun _ _ _ h => h) (by rfl) ?h10 hHeld ?r10
    case h10 => (intro w' hSw; (try dsimp only at hSw); go_simp <;> with_reducible rfl)
    try simp only [Act.put, sI, sZ, sS]
    refine take_op (i := 11) (d := 24) (OP := Op.load 9 (Operand.tmp 23)) (T := 9) (v := ?v11) rfl rfl rfl rfl (by kernel_rfl) (by kernel_rfl) (by kernel_rfl) (fun _ _ _ h => h) (by rfl) ?h11 hHeld ?r11
    case h11 => (intro w' hSw; (try dsimp only at hSw); go_simp <;> with_reducible rfl)
    try simp only [Act.put, sI, sZ, sS]
    refine take_op (i := 12) (d := 25) (OP := Op.load 63 (Operand.tmp 3)) (T := 63) (v := ?v12) rfl rfl rfl rfl (by kernel_rfl) (by kernel_rfl) (by kernel_rfl) (fun _ _ _ h => h) (by rfl) ?h12 hHeld ?r12
    case h12 => (intro w' hSw; (try dsimp only at hSw); go_simp <;> with_reducible rfl)
    try simp only [Act.put, sI, sZ, sS]
    refine take_op (i := 13) (d := 26) (OP := Op.move (Operand.tmp 0)) (T := 156) (v := ?v13) rfl rfl rfl rfl (by kernel_rfl) (by kernel_rfl) (by kernel_rfl) (fun _ _ _ h => h) (by rfl) ?h13 hHeld ?r13
    case h13 => (intro w' hSw; (try dsimp only at hSw); go_simp <;> with_reducible rfl)
    try simp only [Act.put, sI, sZ, sS]
    refine take_op (i := 14) (d := 27) (OP := Op.move (Operand.tmp 6)) (T := 3) (v := ?v14) rfl rfl rfl rfl (by kernel_rfl) (by kernel_rfl) (by kernel_rfl) (fun _ _ _ h => h) (by rfl) ?h14 hHeld ?r14
    case h14 => (intro w' hSw; (try dsimp only at hSw); go_simp <;> with_reducible rfl)
    try simp only [Act.put, sI, sZ, sS]
    refine take_op (i := 15) (d := 28) (OP := Op.indexAddr 156 (Operand.tmp 26) (Operand.tmp 27)) (T := 0) (v := ?v15) rfl rfl rfl rfl (by kernel_rfl) (by kernel_rfl) (by kernel_rfl) (fun _ _ _ h => h) (by rfl) ?h15 hHeld ?r15
    case h15 => (intro w' hSw; (try dsimp only at hSw); go_simp <;> with_reducible rfl)
    try simp only [Act.put, sI, sZ, sS]
    refine take_op (i := 16) (d := 29) (OP := Op.load 3 (Operand.tmp 28)) (T := 3) (v := ?v16) rfl rfl rfl rfl (by kernel_rfl) (by kernel_rfl) (by kernel_rfl) (fun _ _ _ h => h) (by rfl) ?h16 hHeld ?r16
    case h16 => (intro w' hSw; (try dsimp only at hSw); go_simp <;> with_reducible rfl)
    try simp only [Act.put, sI, sZ, sS]
    refine take_op (i := 17) (d := 30) (OP := Op.indexAddr 63 (Operand.tmp 25) (Operand.tmp 29)) (T := 0) (v := ?v17) rfl rfl rfl rfl (by kernel_rfl) (by kernel_rfl) (by kernel_rfl) (fun _ _ _ h => h) (by rfl) ?h17 hHeld ?r17
    case h17 => (intro w' hSw; (try dsimp only at hSw); go_simp <;> with_reducible rfl)
    try simp only [Act.put, sI, sZ, sS]
    refine take_op (i := 18) (d := 31) (OP := Op.load 9 (Operand.tmp 30)) (T := 9) (v := ?v18) rfl rfl rfl rfl (by kernel_rfl) (by kernel_rfl) (by kernel_rfl) (fun _ _ _ h => h) (by rfl) ?h18 hHeld ?r18
    case h18 => (intro w' hSw; (try dsimp only at hSw); go_simp <;> with_reducible rfl)
    try simp only [Act.put, sI, sZ, sS]
    refine take_op (i := 19) (d := 32) (OP := Op.load 158 (Operand.tmp 1)) (T := 158) (v := ?v19) rfl rfl rfl rfl (by kernel_rfl) (by kernel_rfl) (by kernel_rfl) (fun _ _ _ h => h) (by rfl) ?h19 hHeld ?r19
    case h19 => (intro w' hSw; (try dsimp only at hSw); go_simp <;> with_reducible rfl)
    try simp only [Act.put, sI, sZ, sS]
    refine take_op (i := 20) (d := 33) (OP := Op.move (Operand.tmp 0)) (T := 156) (v := ?v20) rfl rfl rfl rfl (by kernel_rfl) (by kernel_rfl) (by kernel_rfl) (fun _ _ _ h => h) (by rfl) ?h20 hHeld ?r20
    case h20 => (intro w' hSw; (try dsimp only at hSw); go_simp <;> with_reducible rfl)
    try simp only [Act.put, sI, sZ, sS]
    refine take_op (i := 21) (d := 34) (OP := Op.move (Operand.tmp 6)) (T := 3) (v := ?v21) rfl rfl rfl rfl (by kernel_rfl) (by kernel_rfl) (by kernel_rfl) (fun _ _ _ h => h) (by rfl) ?h21 hHeld ?r21
    case h21 => (intro w' hSw; (try dsimp only at hSw); go_simp <;> with_reducible rfl)
    try simp only [Act.put, sI, sZ, sS]
    refine take_op (i := 22) (d := 35) (OP := Op.binOp BinOp.add 3 (Operand.tmp 34) (Operand.const (Value.int IntKind.i64 1)) 3) (T := 3) (v := ?v22) rfl rfl rfl rfl (by kernel_rfl) (by kernel_rfl) (by kernel_rfl) (fun _ _ _ h => h) (by rfl) ?h22 hHeld ?r22
    case h22 => (intro w' hSw; (try dsimp only at hSw); go_simp <;> with_reducible rfl)
    try simp only [Act.put, sI, sZ, sS]
    refine take_op (i := 23) (d := 36) (OP := Op.slice 156 (Operand.tmp 33) (some (Operand.tmp 35)) none none) (T := 156) (v := ?v23) rfl rfl rfl rfl (by kernel_rfl) (by kernel_rfl) (by kernel_rfl) (fun _ _ _ h => h) (by rfl) ?h23 hHeld ?r23
    case h23 => (intro w' hSw; (try dsimp only at hSw); go_simp <;> with_reducible rfl)
    try simp only [Act.put, sI, sZ, sS]
    refine call_op (i := 4) (d := 17) (OP := Op.call { callee := Callee.value (Operand.tmp 13), args := #[Operand.tmp 16], argTypes := #[156] }) (T := 25) (f := 167) (args := #[.slice (some ⟨g, o, none⟩) m cap, .pointer (some ⟨F, 0, none⟩), .pointer (some ⟨K, 0, none⟩), .pointer (some ⟨V, 0, none⟩)]) rfl rfl rfl rfl (by kernel_rfl) (by rfl) (by go_simp) ?_
    refine (HL1.out _ qd.2.2.2.2.2.2.out).mono ?_
    rintro e w1 ⟨t1, ⟨rfl, i1, b1⟩, l1, h1, B1, O1⟩
    have qw1 : w1.cell? ⟨F, 0, none⟩ = some (.func (.func 167) #[] #[.pointer (some ⟨F, 0, none⟩), .pointer (some ⟨K, 0, none⟩), .pointer (some ⟨V, 0, none⟩)]) ∧ w1.cell? ⟨K, 0, none⟩ = some (.slice (some ⟨kb, ko, none⟩) S kc) ∧ w1.cell? ⟨V, 0, none⟩ = some (.slice (some ⟨vb, vo, none⟩) S vc) ∧ w1.cell? ⟨g, o + m, none⟩ = some (.int .i64 (x : Nat)) ∧ w1.cell? ⟨kb, ko + x, none⟩ = some (.string kx) ∧ w1.cell? ⟨vb, vo + x, none⟩ = some (.string vx) ∧ Hid (Below wb.heap.size wb w1) := ⟨cell_stays qd.1 b1, cell_stays qd.2.1 b1, cell_stays qd.2.2.1 b1, cell_stays qd.2.2.2.1 b1, cell_stays qd.2.2.2.2.1 b1, cell_stays qd.2.2.2.2.2.1 b1, hide (qd.2.2.2.2.2.2.out.trans (b1.mono qd.2.2.2.2.2.2.out.size))⟩
    refine ⟨_, rfl, qw1, ?_⟩
    replace hHeld := qw1
    try simp only [Act.put, sI, sZ, sS]
    refine call_op (i := 24) (d := 37) (OP := Op.call { callee := Callee.value (Operand.tmp 32), args := #[Operand.tmp 36], argTypes := #[156] }) (T := 25) (f := 167) (args := #[.slice (some ⟨g, O, none⟩) (n - (m + 1)) (cap - (m + 1)), .pointer (some ⟨F, 0, none⟩), .pointer (some ⟨K, 0, none⟩), .pointer (some ⟨V, 0, none⟩)]) rfl rfl rfl rfl (by kernel_rfl) (by rfl) (by go_simp) ?_
    refine (HL2.out _ (qw1.2.2.2.2.2.2).out).mono ?_
    rintro e w2 ⟨t2, ⟨rfl, i2, b2⟩, l2, h2, B2, O2⟩
    have qw2 : w2.cell? ⟨F, 0, none⟩ = some (.func (.func 167) #[] #[.pointer (some ⟨F, 0, none⟩), .pointer (some ⟨K, 0, none⟩), .pointer (some ⟨V, 0, none⟩)]) ∧ w2.cell? ⟨K, 0, none⟩ = some (.slice (some ⟨kb, ko, none⟩) S kc) ∧ w2.cell? ⟨V, 0, none⟩ = some (.slice (some ⟨vb, vo, none⟩) S vc) ∧ w2.cell? ⟨g, o + m, none⟩ = some (.int .i64 (x : Nat)) ∧ w2.cell? ⟨kb, ko + x, none⟩ = some (.string kx) ∧ w2.cell? ⟨vb, vo + x, none⟩ = some (.string vx) ∧ Hid (Below wb.heap.size wb w2) := ⟨cell_stays qw1.1 b2, cell_stays qw1.2.1 b2, cell_stays qw1.2.2.1 b2, cell_stays qw1.2.2.2.1 b2, cell_stays qw1.2.2.2.2.1 b2, cell_stays qw1.2.2.2.2.2.1 b2, hide (qw1.2.2.2.2.2.2.out.trans (b2.mono qw1.2.2.2.2.2.2.out.size))⟩
    refine ⟨_, rfl, qw2, ?_⟩
    replace hHeld := qw2
    try simp only [Act.put, sI, sZ, sS]
    have HT := hide (And.intro l1 (And.intro h1 (And.intro B1 (And.intro l2 (And.intro h2 (And.intro B2 (T.over_node (p := w2.heap.size) (k := kx) (v := vx) (Nat.le_trans qw1.2.2.2.2.2.2.out.size b2.size) (O1.mono qd.2.2.2.2.2.2.out.size) (O2.mono qw1.2.2.2.2.2.2.out.size))))))))
    clear O1 O2
    have hns : t1.n + t2.n ≤ 1000000 := by rw [← T.n_eq, ← T.n_eq, l1, l2, List.length_map, List.length_map]; have := HN.out; rw [List.length_take, List.length_drop]; omega
    refine call_op (i := 25) (d := 38) (OP := Op.call { callee := Callee.value (Operand.func 168), args := #[Operand.tmp 17, Operand.tmp 24, Operand.tmp 31, Operand.tmp 37], argTypes := #[25, 9, 9, 25] }) (T := 25) (f := 168) (args := #[t1.ptr, .string kx, .string vx, t2.ptr]) rfl rfl rfl rfl (by kernel_rfl) (by rfl) (by go_simp) ?_
    refine (made_any t1 t2 kx vx w2 (In.below b2 i1) i2 hns).mono ?_
    rintro e w3 ⟨rfl, i3, b3⟩
    have qw3 : w3.cell? ⟨F, 0, none⟩ = some (.func (.func 167) #[] #[.pointer (some ⟨F, 0, none⟩), .pointer (some ⟨K, 0, none⟩), .pointer (some ⟨V, 0, none⟩)]) ∧ w3.cell? ⟨K, 0, none⟩ = some (.slice (some ⟨kb, ko, none⟩) S kc) ∧ w3.cell? ⟨V, 0, none⟩ = some (.slice (some ⟨vb, vo, none⟩) S vc) ∧ w3.cell? ⟨g, o + m, none⟩ = some (.int .i64 (x : Nat)) ∧ w3.cell? ⟨kb, ko + x, none⟩ = some (.string kx) ∧ w3.cell? ⟨vb, vo + x, none⟩ = some (.string vx) ∧ Hid (Below wb.heap.size wb w3) := ⟨cell_stays qw2.1 b3, cell_stays qw2.2.1 b3, cell_stays qw2.2.2.1 b3, cell_stays qw2.2.2.2.1 b3, cell_stays qw2.2.2.2.2.1 b3, cell_stays qw2.2.2.2.2.2.1 b3, hide (qw2.2.2.2.2.2.2.out.trans (b3.mono qw2.2.2.2.2.2.2.out.size))⟩
    refine ⟨_, rfl, qw3, ?_⟩
    replace hHeld := qw3
    try simp only [Act.put, sI, sZ, sS]
    refine take_op (i := 26) (d := 5) (OP := Op.assign (Operand.tmp 38)) (T := 25) (v := ?v24) rfl rfl rfl rfl (by kernel_rfl) (by kernel_rfl) (by kernel_rfl) (fun _ _ _ h => h) (by rfl) ?h24 hHeld ?r24
    case h24 => (intro w' hSw; (try dsimp only at hSw); go_simp <;> with_reducible rfl)
    try simp only [Act.put, sI, sZ, sS]
    refine wpAnyH_done (by kernel_rfl) ?_ _
    go_wp2
    go_ret
    obtain ⟨l1, h1, B1, l2, h2, B2, O3⟩ := HT.out
    obtain ⟨hpn, hn, hmn, hm, h0, hx⟩ := HN.out
    obtain ⟨e1, e2, e3⟩ := halves h0 hm
    refine ⟨_, ⟨rfl, i3, qw3.2.2.2.2.2.2.out⟩, ?_, ?_, ?_, O3⟩
    · rw [T.list, l1, l2, ← HE.out, ← List.map_cons, ← List.map_append]
      congr 1
      have hml : m < p.length := by omega
      have e4 : x = p[m] := by rw [List.getElem?_eq_getElem hml] at hx; exact (Option.some.inj hx).symm
      rw [e4, List.getElem_cons_drop, List.take_append_drop]
    · rw [T.h, h1, h2, e1]
    · exact ⟨by rw [h1, h2]; exact e2, by rw [h1, h2]; exact e3, B1, B2⟩
end Go.Proofs.YtkkpdgfllnbigaaGreat.Pm
namespace Go.Proofs.YtkkpdgfllnbigaaGreat.Pm
open Go.RowKit Go.Shelf
set_option linter.unusedSimpArgs false

/-- Keys that rise by one step rise. -/
theorem srt_step {l : List Nm} (h : ∀ i x y, l[i]? = some x → l[i + 1]? = some y → cmpB x.1 y.1 = -1) : Srt l := by
  induction l with
  | nil => exact List.Pairwise.nil
  | cons a l ih =>
    have h1 : Srt l := ih (fun i x y hx hy => h (i + 1) x y (by simpa using hx) (by simpa using hy))
    refine List.Pairwise.cons ?_ h1
    cases l with
    | nil => simp
    | cons b l =>
      have hab := h 0 a b rfl rfl
      intro c hc
      rcases List.mem_cons.1 hc with rfl | hc
      · exact hab
      · exact ord_B.trans _ _ _ hab ((List.pairwise_cons.1 h1).1 c hc)
/-- No two next to each other alike: the keys rise. -/
theorem Rises.srt {ks : List ByteArray} {vs : List ByteArray} {p : List Nat} (h : Rises ks p) (hd : ∀ i x y, p[i]? = some x → p[i + 1]? = some y → ks[x]? ≠ ks[y]?) : Srt (p.map (ent ks vs)) := by
  refine srt_step (fun i a b ha hb => ?_)
  rw [List.getElem?_map] at ha hb
  obtain ⟨x, hx, rfl⟩ := Option.map_eq_some_iff.1 ha
  obtain ⟨y, hy, rfl⟩ := Option.map_eq_some_iff.1 hb
  have hxl : x < ks.length := List.mem_range.1 (h.perm.mem_iff.1 (List.mem_of_getElem? hx))
  have hyl : y < ks.length := List.mem_range.1 (h.perm.mem_iff.1 (List.mem_of_getElem? hy))
  have ex : ks[x]? = some ks[x] := List.getElem?_eq_getElem hxl
  have ey : ks[y]? = some ks[y] := List.getElem?_eq_getElem hyl
  have h1 := h.up i (i + 1) x y _ _ (by omega) hx hy ex ey
  have h2 := hd i x y hx hy
  rw [ex, ey] at h2
  simp only [ent, ex, ey, Option.getD_some]
  have hr := ord_B.range ks[x] ks[y]
  have ha := ord_B.anti ks[y] ks[x]
  rcases hr with hr | hr | hr
  · exact hr
  · exact (h2 (by rw [ord_B.eq _ _ hr])).elim
  · omega
/-- Two alike: the keys are not each there once. -/
theorem Rises.twice {ks : List ByteArray} {p : List Nat} (h : Rises ks p) {i x y : Nat} (hx : p[i]? = some x) (hy : p[i + 1]? = some y) (he : ks[x]? = ks[y]?) : ¬ ks.Nodup := by
  intro hn
  have hxl : x < ks.length := List.mem_range.1 (h.perm.mem_iff.1 (List.mem_of_getElem? hx))
  have hyl : y < ks.length := List.mem_range.1 (h.perm.mem_iff.1 (List.mem_of_getElem? hy))
  have hxy : x = y := (List.getElem?_inj hxl hn).1 he
  have hpn : p.Nodup := h.perm.nodup_iff.2 List.nodup_range
  have hil := (List.getElem?_eq_some_iff.1 hx).1
  have := (List.getElem?_inj hil hpn).1 (by rw [hx, hy, hxy] : p[i]? = p[i + 1]?)
  omega

set_option maxHeartbeats 4000000 in
set_option maxRecDepth 100000 in
theorem of_any (ks : List ByteArray) (vs : List ByteArray) (kv vv : Value) (w : World) (hk : Cs w kv (ks.map .string)) (hv : Cs w vv (vs.map .string)) (hl : ks.length ≤ 100000) :
    Calls Tryz.prog 110 #[kv, vv] w fun e w' => Below w.heap.size w w' ∧ ((e = .returned (.tuple #[mv .nil, .int .i64 2]) ∧ (ks.length ≠ vs.length ∨ ¬ ks.Nodup)) ∨ ∃ (t : T) (p : List Nat), e = .returned (.tuple #[mv t, .int .i64 0]) ∧ ks.length = vs.length ∧ p.Perm (List.range ks.length) ∧ t.list = p.map (ent ks vs) ∧ Srt t.list ∧ t.bal ∧ In w' t ∧ t.over w.heap.size) := by
  obtain ⟨wB, hwB⟩ : ∃ wB, wB = ((w.alloc (.cells #[kv] 63)).alloc (.cells #[vv] 63)).alloc (.cells #[.pointer none] 27) := ⟨_, rfl⟩
  obtain ⟨m0, m1, m2, hbB⟩ := new3 w (.cells #[kv] 63) (.cells #[vv] 63) (.cells #[.pointer none] 27)
  rw [← hwB] at m0 m1 m2 hbB
  have hsB : wB.heap.size = w.heap.size + 3 := by rw [hwB]; simp
  have c0 : wB.cell? ⟨w.heap.size, 0, none⟩ = some kv := by rw [cell_of_row _ _ 0 _ 63 (0, 0) m0]; rfl
  have c1 : wB.cell? ⟨w.heap.size + 1, 0, none⟩ = some vv := by rw [cell_of_row _ _ 0 _ 63 (0, 0) m1]; rfl
  obtain ⟨ka, kc, rfl, hkc, hkr⟩ := hk.ex
  obtain ⟨va, vc, rfl, hvc, hvr⟩ := hv.ex
  have hris := rising_any ks _ wB (hk.below hbB) hl
  have hkB := hk.below hbB
  have hvB := hv.below hbB
  simp only [List.length_map] at *
  -- what lies in the block that goes out, behind whatever lies above
  have key : ∀ W, Below wB.heap.size wB W → ∀ y, W.cell? ⟨w.heap.size + 1 + 1, 0, none⟩ = some (.pointer none) ∧ W.frozen? ⟨w.heap.size + 1 + 1, 0, none⟩ = false ∧ (W.setCell ⟨w.heap.size + 1 + 1, 0, none⟩ y).heap[w.heap.size + 1 + 1]? = some (.cells #[y] 27 (0, 0)) ∧ Below w.heap.size w (W.setCell ⟨w.heap.size + 1 + 1, 0, none⟩ y) ∧ ∀ t, In W t → In (W.setCell ⟨w.heap.size + 1 + 1, 0, none⟩ y) t := fun W hW y => by
    have hw1 := (hW.block (w.heap.size + 1 + 1) (by omega)).trans m2
    obtain ⟨o1, o2, o3⟩ := out_box (w := w) (y := y) hw1 (by omega) (hbB.trans (hW.mono hbB.size))
    exact ⟨by rw [cell_of_row _ _ 0 _ 27 (0, 0) hw1]; rfl, frozen_of_row _ _ 0 _ 27 hw1, o1, o2, fun t ht => In.aside hw1 o3 ht⟩
  have HK := hide key
  have HE := hide (And.intro hbB (And.intro hsB (And.intro c0 (And.intro c1 (And.intro hkB (And.intro hvB m2))))))
  by_cases hkv : ks.length = vs.length
  · have hkv2 := hkv
    rw [← hkv] at c1 HE hwB ⊢
    have HKV := hide hkv2
    obtain ⟨N, hN⟩ : ∃ N, N = ks.length := ⟨_, rfl⟩
    rw [← hN] at c0 c1 hwB hris hl ⊢
    have HN := hide hN
    have HWB := hide hwB
    have c0' := c0
    clear hk hv key hkB hvB hbB m0 m1 m2 hkr hvr hkc hvc hkv hkv2 hN hsB c0' hwB
    go_enter Tryz.func110, Tryz.ntmps110
    go_wp2_with (go_at_call 166; rw [← HWB.out]; refine hris.mono ?_; rintro e w1 ⟨g, cap, p, rfl, hcap, hrp, hcp, b1⟩)
    have HP := hide (And.intro hrp (And.intro hcp b1))
    have HC := hide hcap
    clear hrp hcp b1 hris hcap c0 c1
    go_loopw [7] (fun v7 wr => ∃ j : Nat, (j ≤ N) ∧ v7 = .int .i64 ((j : Int) + 1) ∧ Hid (Below w1.heap.size w1 wr ∧ ∀ i x y, i < j → p[i]? = some x → p[i + 1]? = some y → ks[x]? ≠ ks[y]?)) (fun v7 _ => N + 1 - (intOf v7).toNat)
    case atStart => exact ⟨0, by omega, rfl, hide ⟨Below.refl _ _, by intro i x y h; omega⟩⟩
    case round =>
      obtain ⟨j, hj, rfl, HR⟩ := hrel
      have hbw : Below wB.heap.size wB wr := HP.out.2.2.trans (HR.out.1.mono HP.out.2.2.size)
      have c0 := cell_stays HE.out.2.2.1 hbw
      rw [← HN.out] at c0
      have hpl : p.length = N := by rw [HP.out.1.perm.length_eq, List.length_range]; exact HN.out.symm
      by_cases hjN : j + 1 < N
      · have z1 : (j : Int) + 1 < (N : Int) := by omega
        have z2 : (j : Int) < (N : Int) := by omega
        obtain ⟨x, hx⟩ : ∃ x, p[j]? = some x := ⟨p[j]'(by omega), List.getElem?_eq_getElem _⟩
        obtain ⟨y, hy⟩ : ∃ y, p[j + 1]? = some y := ⟨p[j + 1]'(by omega), List.getElem?_eq_getElem _⟩
        have hxl : x < N := by rw [HN.out]; exact List.mem_range.1 (HP.out.1.perm.mem_iff.1 (List.mem_of_getElem? hx))
        have hyl : y < N := by rw [HN.out]; exact List.mem_range.1 (HP.out.1.perm.mem_iff.1 (List.mem_of_getElem? hy))
        obtain ⟨kx, hkx⟩ : ∃ k, ks[x]? = some k := ⟨ks[x]'(by rw [← HN.out]; exact hxl), List.getElem?_eq_getElem _⟩
        obtain ⟨ky, hky⟩ : ∃ k, ks[y]? = some k := ⟨ks[y]'(by rw [← HN.out]; exact hyl), List.getElem?_eq_getElem _⟩
        have d0 := cell_stays (HP.out.2.1 j x hx) HR.out.1
        have d1 := cell_stays (HP.out.2.1 (j + 1) y hy) HR.out.1
        obtain ⟨kb, ko, kc', e1, _, e3, e4⟩ := (HE.out.2.2.2.2.1.below hbw).at (j := x) (u := .string kx) (by rw [List.getElem?_map, hkx]; rfl)
        have e5 := e4 y (.string ky) (by rw [List.getElem?_map, hky]; rfl)
        simp only [Value.slice.injEq] at e1
        obtain ⟨rfl, _, rfl⟩ := e1
        have z3 : (x : Int) < (N : Int) := by omega
        have z4 : (y : Int) < (N : Int) := by omega
        have HX := hide (And.intro hx (And.intro hy (And.intro hkx hky)))
        have HO := hide hbw
        have k1 := (HK.out wr hbw (.pointer none)).1
        have k2 := (HK.out wr hbw (.pointer none)).2.1
        clear hx hy hkx hky hbw e4 hpl
        by_cases hxy : kx = ky
        · subst hxy
          have hq : (kx.toList == kx.toList) = true := beq_self_eq_true _
          go_wp2
          go_quiet (fail)
          go_wp2
          obtain ⟨_, _, o1, o2, _⟩ := HK.out (wr.drewN nq) (HO.out.trans ((below_drew wr nq).mono HO.out.size)) (.pointer none)
          refine ret_row_tmp (w.heap.size + 1 + 1) [.pointer none] rfl rfl rfl Tryz.underlying27 rfl Tryz.info27 o1 rfl ?_
          exact ⟨o2, .inl ⟨rfl, .inr (HP.out.1.twice HX.out.1 HX.out.2.1 (by rw [HX.out.2.2.1, HX.out.2.2.2]))⟩⟩
        · have hq : (kx.toList == ky.toList) = false := by
            rw [beq_eq_false_iff_ne]
            intro e2
            rw [ByteArray.toList_eq, ByteArray.toList_eq] at e2
            exact hxy (ba_eq e2)
          have HQ := hide hxy
          clear hxy
          go_wp2
          go_quiet (fail)
          go_wp2
          go_roundw
          case rel =>
            refine ⟨j + 1, by omega, by go_num, hide ⟨HR.out.1.trans ((below_drew _ _).mono HR.out.1.size), fun i x' y' hi hx' hy' => ?_⟩⟩
            by_cases hij : i < j
            · exact HR.out.2 i x' y' hij hx' hy'
            · have : i = j := by omega
              subst this
              rw [HX.out.1] at hx'
              rw [HX.out.2.1] at hy'
              cases hx'
              cases hy'
              rw [HX.out.2.2.1, HX.out.2.2.2]
              intro e
              exact HQ.out (Option.some.inj e)
          case measure => simp [intOf]; omega
      · have z1 : ¬ (j : Int) + 1 < (N : Int) := by omega
        have z2 : decide ((j : Int) + 1 < (N : Int)) = false := by simpa using z1
        have hent := HEnv.mk (W := wr.alloc (.cells #[.func (.func 167) #[] #[.pointer (some ⟨wr.heap.size, 0, none⟩), .pointer (some ⟨w.heap.size, 0, none⟩), .pointer (some ⟨w.heap.size + 1, 0, none⟩)]] 158)) (F := wr.heap.size) (K := w.heap.size) (V := w.heap.size + 1) (ks := ks) (vs := vs)
        have hb3 : Below wr.heap.size wr (wr.alloc (.cells #[.func (.func 167) #[] #[.pointer (some ⟨wr.heap.size, 0, none⟩), .pointer (some ⟨w.heap.size, 0, none⟩), .pointer (some ⟨w.heap.size + 1, 0, none⟩)]] 158)) := (Below.refl _ wr).alloc (Nat.le_refl _) _
        have hf3 : (wr.alloc (.cells #[.func (.func 167) #[] #[.pointer (some ⟨wr.heap.size, 0, none⟩), .pointer (some ⟨w.heap.size, 0, none⟩), .pointer (some ⟨w.heap.size + 1, 0, none⟩)]] 158)).cell? ⟨wr.heap.size, 0, none⟩ = some (.func (.func 167) #[] #[.pointer (some ⟨wr.heap.size, 0, none⟩), .pointer (some ⟨w.heap.size, 0, none⟩), .pointer (some ⟨w.heap.size + 1, 0, none⟩)]) := cell_new wr _ 158
        obtain ⟨w3, hw3⟩ : ∃ w3, w3 = wr.alloc (.cells #[.func (.func 167) #[] #[.pointer (some ⟨wr.heap.size, 0, none⟩), .pointer (some ⟨w.heap.size, 0, none⟩), .pointer (some ⟨w.heap.size + 1, 0, none⟩)]] 158) := ⟨_, rfl⟩
        rw [← hw3] at hb3 hf3 hent
        have hb4 : Below wB.heap.size wB w3 := hbw.trans (hb3.mono hbw.size)
        have henv := hent hf3 ⟨_, cell_stays HE.out.2.2.1 hb4, HE.out.2.2.2.2.1.below hb4⟩ ⟨_, cell_stays HE.out.2.2.2.1 hb4, HE.out.2.2.2.2.2.1.below hb4⟩
        have hhalf := half_any wr.heap.size w.heap.size (w.heap.size + 1) ks vs HKV.out N p (.slice (some ⟨g, 0, none⟩) N cap) w3 hpl (by omega) (fun i hi => List.mem_range.1 (HP.out.1.perm.mem_iff.1 hi)) henv ⟨some ⟨g, 0, none⟩, cap, by simp [hpl], by simp [hpl]; exact HC.out, fun i u hi => ⟨g, 0, rfl, by
          rw [List.getElem?_map] at hi
          obtain ⟨x, hx, rfl⟩ := Option.map_eq_some_iff.1 hi
          rw [Nat.zero_add]
          exact cell_stays (cell_stays (HP.out.2.1 i x hx) HR.out.1) hb3⟩⟩
        rw [hw3] at hhalf
        have HB3 := hide (And.intro hbw (And.intro hb3 (And.intro hb4 hw3)))
        have HPL := hide hpl
        clear hent hb3 hf3 hb4 henv hw3 hbw c0
        have hstf : ∀ a f x y m W, (store a (.func f x y) m).run Tryz.prog W = stored Tryz.prog W a (.func f x y) m := fun a f x y m W => run_store Tryz.prog W a _ m rfl
        go_wp2_with (go_at_call 167; refine hhalf.mono ?_; rintro e w4 ⟨t, ⟨rfl, i4, b4⟩, hl4, hh4, hB4, hO4⟩; rw [← HB3.out.2.2.2] at hO4; have HOV := hide (hO4.mono (B := w.heap.size) (Nat.le_trans HE.out.1.size HB3.out.2.2.1.size)); clear hO4; rw [← HB3.out.2.2.2] at b4; have hb5 := HB3.out.2.2.1.trans (b4.mono HB3.out.2.2.1.size); obtain ⟨k1, k2, k3, k4, k5⟩ := HK.out w4 hb5 t.ptr; have HF := hide (And.intro k3 (And.intro k4 (And.intro (k5 t i4) (And.intro hl4 hB4)))); obtain ⟨xb, hxb⟩ := t.ptr_shape; have HX := hide hxb; rw [hxb] at HF ⊢; clear hxb k3 k4 k5 i4 hl4 hB4 hb5 b4 hh4)
        refine ret_row_tmp (w.heap.size + 1 + 1) [.pointer xb] rfl rfl rfl Tryz.underlying27 rfl Tryz.info27 HF.out.1 rfl ?_
        refine ⟨HF.out.2.1, .inr ⟨t, p, by unfold mv; rw [HX.out]; rfl, trivial, ?_, HF.out.2.2.2.1, ?_, HF.out.2.2.2.2, HF.out.2.2.1, HOV.out⟩⟩
        · have := HP.out.1.perm
          rw [← HN.out] at this
          exact this
        · rw [HF.out.2.2.2.1]
          exact HP.out.1.srt (fun i x y hx hy => HR.out.2 i x y (by have := (List.getElem?_eq_some_iff.1 hy).1; have := HPL.out; omega) hx hy)
  · have hneq : ¬ ((ks.length : Int) = (vs.length : Int)) := by omega
    have z1 : ((ks.length : Int) == (vs.length : Int)) = false := by simpa using hneq
    have z2 : ((ks.length : Int) != (vs.length : Int)) = true := by simp [z1, bne]
    have HO := hide (And.intro m2 hbB)
    have HNE := hide hkv
    generalize ks.length = N at *
    generalize vs.length = N' at *
    rw [hwB] at HO
    clear hk hv key hkB hvB hbB m0 m1 m2 hkr hvr hkc hvc hris HE HK c0 c1 hsB
    go_enter Tryz.func110, Tryz.ntmps110
    go_wp2
    refine ret_row_tmp (w.heap.size + 1 + 1) [.pointer none] rfl rfl rfl Tryz.underlying27 rfl Tryz.info27 HO.out.1 rfl ?_
    exact ⟨HO.out.2, .inl ⟨rfl, .inl HNE.out⟩⟩
end Go.Proofs.YtkkpdgfllnbigaaGreat.Pm
