/-
  half: THE CLOSURE OF Of: a tree out of places, halves by halves.
-/
import Derived.Test.YtkeldhohilmdcaaGreatPSort
namespace Go.Proofs.YtkeldhohilmdcaaGreat.Pm
open Go.RowKit Go.Shelf
set_option linter.unusedSimpArgs false

abbrev Nm := ByteArray × ByteArray
def hgt (n : Nat) : Nat := if h : n = 0 then 0 else hgt (n / 2) + 1
decreasing_by omega
theorem hgt_zero : hgt 0 = 0 := by rw [hgt]; rfl
theorem hgt_pos {n : Nat} (h : n ≠ 0) : hgt n = hgt (n / 2) + 1 := by rw [hgt, dif_neg h]
theorem hgt_mono (n : Nat) : ∀ m, m ≤ n → hgt m ≤ hgt n := by
  induction n using Nat.strongRecOn with
  | ind n ih =>
    intro m hm
    by_cases h0 : m = 0
    · rw [h0, hgt_zero]; omega
    · rw [hgt_pos h0, hgt_pos (n := n) (by omega)]
      have := ih (n / 2) (by omega) (m / 2) (by omega)
      omega
theorem hgt_succ (n : Nat) : hgt (n + 1) ≤ hgt n + 1 := by
  induction n using Nat.strongRecOn with
  | ind n ih =>
    by_cases h0 : n = 0
    · subst h0; rw [hgt_pos (by omega)]; simp [hgt_zero]
    · rw [hgt_pos (n := n + 1) (by omega), hgt_pos h0]
      by_cases hp : (n + 1) / 2 = n / 2
      · rw [hp]; omega
      · have e : (n + 1) / 2 = n / 2 + 1 := by omega
        rw [e]
        have := ih (n / 2) (by omega)
        omega
theorem halves {n m : Nat} (h0 : n ≠ 0) (hm : m = n / 2) : hgt n = max (hgt m) (hgt (n - (m + 1))) + 1 ∧ hgt m ≤ hgt (n - (m + 1)) + 1 ∧ hgt (n - (m + 1)) ≤ hgt m + 1 := by
  have h1 := hgt_mono m (n - (m + 1)) (by omega)
  have h2 := hgt_mono (n - (m + 1) + 1) m (by omega)
  have h3 := hgt_succ (n - (m + 1))
  rw [hgt_pos h0, ← hm]
  refine ⟨?_, ?_, ?_⟩
  · rw [Nat.max_eq_left h1]
  · omega
  · omega
theorem slice51_hi {g o n m cap : Nat} (hm : m ≤ cap) (hc : 0 < cap) (w' : World) : (Instr.slice 148 (.slice (some ⟨g, o, none⟩) n cap) none (some (.int .i64 (m : Nat))) none).run Tryz.prog w' = .ok (.slice (some ⟨g, o, none⟩) m cap) w' := by
  have h2 : (0 : Int) ≤ (m : Int) ∧ (m : Int) ≤ (cap : Int) := by omega
  have h3 : ¬ cap = 0 := by omega
  simp [Instr.slice, Instr.sliceBounds, Instr.sliceBound, asIntOf, run_underlying Tryz.underlying148, go_sem, hm, h3, Tryz.sizeOf3, add_lit]
theorem slice51_lo {g o n m cap : Nat} (hm : m ≤ n) (hc : n ≤ cap) (w' : World) : (Instr.slice 148 (.slice (some ⟨g, o, none⟩) n cap) (some (.int .i64 (m : Nat))) none none).run Tryz.prog w' = .ok (.slice (some ⟨g, (if cap = m then o else o + m), none⟩) (n - m) (cap - m)) w' := by
  have hcm : m ≤ cap := Nat.le_trans hm hc
  have h2 : (0 : Int) ≤ (m : Int) ∧ (m : Int) ≤ (n : Int) := by omega
  by_cases h : cap = m
  · simp [Instr.slice, Instr.sliceBounds, Instr.sliceBound, asIntOf, run_underlying Tryz.underlying148, go_sem, hm, hcm, Tryz.sizeOf3, add_lit, h]
  · simp [Instr.slice, Instr.sliceBounds, Instr.sliceBound, asIntOf, run_underlying Tryz.underlying148, go_sem, hm, hcm, Tryz.sizeOf3, add_lit, h]

/-- What the closure has. -/
structure HEnv (W : World) (F K V : Nat) (ks : List ByteArray) (vs : List ByteArray) : Prop where
  f : W.cell? ⟨F, 0, none⟩ = some (.func (.func 129) #[] #[.pointer (some ⟨F, 0, none⟩), .pointer (some ⟨K, 0, none⟩), .pointer (some ⟨V, 0, none⟩)])
  k : ∃ kv, W.cell? ⟨K, 0, none⟩ = some kv ∧ Cs W kv (ks.map .string)
  v : ∃ vv, W.cell? ⟨V, 0, none⟩ = some vv ∧ Cs W vv (vs.map .string)
theorem HEnv.below {W W' : World} {F K V : Nat} {ks : List ByteArray} {vs : List ByteArray} (h : HEnv W F K V ks vs) (hb : Below W.heap.size W W') : HEnv W' F K V ks vs := by
  obtain ⟨kv, k1, k2⟩ := h.k
  obtain ⟨vv, v1, v2⟩ := h.v
  exact ⟨cell_stays h.f hb, ⟨kv, cell_stays k1 hb, k2.below hb⟩, ⟨vv, cell_stays v1 hb, v2.below hb⟩⟩
def ent (ks : List ByteArray) (vs : List ByteArray) (i : Nat) : Nm := (ks[i]?.getD ⟨#[]⟩, vs[i]?.getD ⟨#[]⟩)
theorem Cs.at {w : World} {v : Value} {l : List Value} {j : Nat} {u : Value} (h : Cs w v l) (hj : l[j]? = some u) : ∃ b off cap, v = .slice (some ⟨b, off, none⟩) l.length cap ∧ l.length ≤ cap ∧ w.cell? ⟨b, off + j, none⟩ = some u ∧ ∀ i u, l[i]? = some u → w.cell? ⟨b, off + i, none⟩ = some u := by
  obtain ⟨ao, cap, rfl, hc, hr⟩ := h.ex
  obtain ⟨b, off, rfl, h1⟩ := hr j u hj
  exact ⟨b, off, cap, rfl, hc, h1, fun i u hi => by
    obtain ⟨b', off', e, h2⟩ := hr i u hi
    simp only [Option.some.injEq, Addr.mk.injEq] at e
    obtain ⟨rfl, rfl, _⟩ := e
    exact h2⟩

set_option maxHeartbeats 4000000 in
set_option maxRecDepth 100000 in
theorem half_any (F K V : Nat) (ks : List ByteArray) (vs : List ByteArray) (hkv : ks.length = vs.length) : ∀ (n : Nat) (p : List Nat) (sv : Value) (W : World), p.length = n → n ≤ 100000 → (∀ i ∈ p, i < ks.length) → HEnv W F K V ks vs → Cs W sv (p.map fun i => .int .i64 ((i : Nat) : Int)) →
    Calls Tryz.prog 129 #[sv, .pointer (some ⟨F, 0, none⟩), .pointer (some ⟨K, 0, none⟩), .pointer (some ⟨V, 0, none⟩)] W fun e w' => ∃ t, Gives W e w' t ∧ t.list = p.map (ent ks vs) ∧ t.h = hgt n ∧ t.bal := by
  intro n
  induction n using Nat.strongRecOn with
  | ind n ih =>
  intro p sv W hpn hn hp henv hcs
  by_cases h0 : n = 0
  · subst h0
    have hp0 : p = [] := List.eq_nil_of_length_eq_zero hpn
    subst hp0
    obtain ⟨ao, cap, rfl, _, _⟩ := hcs.ex
    simp only [List.map_nil, List.length_nil]
    go_enter Tryz.func129, Tryz.ntmps129
    go_wp2
    go_ret
    exact ⟨.nil, ⟨rfl, trivial, Below.refl _ _⟩, rfl, hgt_zero.symm, trivial⟩
  · obtain ⟨m, hm⟩ : ∃ m, m = n / 2 := ⟨_, rfl⟩
    have hmn : m < n := by omega
    obtain ⟨x, hx⟩ : ∃ x, p[m]? = some x := ⟨p[m]'(by omega), List.getElem?_eq_getElem _⟩
    have hxk := hp x (List.mem_of_getElem? hx)
    obtain ⟨kx, hkx⟩ : ∃ y, ks[x]? = some y := ⟨ks[x]'hxk, List.getElem?_eq_getElem _⟩
    obtain ⟨vx, hvx⟩ : ∃ y, vs[x]? = some y := ⟨vs[x]'(by omega), List.getElem?_eq_getElem _⟩
    obtain ⟨g, o, cap, rfl, hcap, hcx, hca⟩ := hcs.at (j := m) (u := .int .i64 ((x : Nat) : Int)) (by rw [List.getElem?_map, hx]; rfl)
    obtain ⟨kv, k1, k2⟩ := henv.k
    obtain ⟨vv, v1, v2⟩ := henv.v
    obtain ⟨kb, ko, kc, rfl, hkc, hck, _⟩ := k2.at (j := x) (u := .string kx) (by rw [List.getElem?_map, hkx]; rfl)
    obtain ⟨vb, vo, vc, rfl, hvc, hcv, _⟩ := v2.at (j := x) (u := .string vx) (by rw [List.getElem?_map, hvx]; rfl)
    rw [List.length_map] at *
    rw [hpn] at hcap hcs ⊢
    have hL1 : ∀ w', Below W.heap.size W w' → Calls Tryz.prog 129 #[.slice (some ⟨g, o, none⟩) m cap, .pointer (some ⟨F, 0, none⟩), .pointer (some ⟨K, 0, none⟩), .pointer (some ⟨V, 0, none⟩)] w' fun e w'' => ∃ t, Gives w' e w'' t ∧ t.list = (p.take m).map (ent ks vs) ∧ t.h = hgt m ∧ t.bal := fun w' hw' => by
      refine ih m hmn (p.take m) _ w' (by rw [List.length_take]; omega) (by omega) (fun i hi => hp i (List.mem_of_mem_take hi)) (henv.below hw') ⟨some ⟨g, o, none⟩, cap, by simp [List.length_take, hpn]; omega, by simp [List.length_take]; omega, fun j u hj => ⟨g, o, rfl, ?_⟩⟩
      rw [List.map_take, List.getElem?_take] at hj
      split at hj
      · exact cell_stays (hca j u hj) hw'
      · cases hj
    have hL2 : ∀ w', Below W.heap.size W w' → Calls Tryz.prog 129 #[.slice (some ⟨g, (if cap = m + 1 then o else o + (m + 1)), none⟩) (n - (m + 1)) (cap - (m + 1)), .pointer (some ⟨F, 0, none⟩), .pointer (some ⟨K, 0, none⟩), .pointer (some ⟨V, 0, none⟩)] w' fun e w'' => ∃ t, Gives w' e w'' t ∧ t.list = (p.drop (m + 1)).map (ent ks vs) ∧ t.h = hgt (n - (m + 1)) ∧ t.bal := fun w' hw' => by
      refine ih (n - (m + 1)) (by omega) (p.drop (m + 1)) _ w' (by rw [List.length_drop, hpn]) (by omega) (fun i hi => hp i (List.mem_of_mem_drop hi)) (henv.below hw') ⟨some ⟨g, (if cap = m + 1 then o else o + (m + 1)), none⟩, cap - (m + 1), by simp [hpn], by simp [hpn]; omega, fun j u hj => ⟨g, (if cap = m + 1 then o else o + (m + 1)), rfl, ?_⟩⟩
      rw [List.map_drop, List.getElem?_drop] at hj
      have hlt := (List.getElem?_eq_some_iff.1 hj).1
      rw [List.length_map, hpn] at hlt
      rw [if_neg (by omega), Nat.add_assoc]
      exact cell_stays (hca (m + 1 + j) u hj) hw'
    have q0 : W.cell? ⟨F, 0, none⟩ = some (.func (.func 129) #[] #[.pointer (some ⟨F, 0, none⟩), .pointer (some ⟨K, 0, none⟩), .pointer (some ⟨V, 0, none⟩)]) ∧ W.cell? ⟨K, 0, none⟩ = some (.slice (some ⟨kb, ko, none⟩) ks.length kc) ∧ W.cell? ⟨V, 0, none⟩ = some (.slice (some ⟨vb, vo, none⟩) ks.length vc) ∧ W.cell? ⟨g, o + m, none⟩ = some (.int .i64 (x : Nat)) ∧ W.cell? ⟨kb, ko + x, none⟩ = some (.string kx) ∧ W.cell? ⟨vb, vo + x, none⟩ = some (.string vx) ∧ Hid (Below W.heap.size W W) := ⟨henv.f, k1, by rw [hkv]; exact v1, hcx, hck, hcv, hide (Below.refl _ _)⟩
    have s1 := fun w' => slice51_hi (g := g) (o := o) (n := n) (m := m) (cap := cap) (by omega) (by omega) w'
    have s2 := fun w' => slice51_lo (g := g) (o := o) (n := n) (m := m + 1) (cap := cap) (by omega) (by omega) w'
    have w1 : ((m + 1 : Nat) : Int) = (m : Int) + 1 := by omega
    rw [w1] at s2
    generalize (if cap = m + 1 then o else o + (m + 1)) = O at hL2 s2
    have HL1 := hide hL1
    have HL2 := hide hL2
    have HE : Hid ((ent ks vs x) = (kx, vx)) := hide (by unfold ent; rw [hkx, hvx]; rfl)
    have HN := hide (And.intro hpn (And.intro hn (And.intro hmn (And.intro hm (And.intro h0 hx)))))
    obtain ⟨S, hS⟩ : ∃ S, S = ks.length := ⟨_, rfl⟩
    rw [← hS] at q0 hxk
    have hq : Int.tdiv (n : Int) 2 = (m : Int) := by rw [hm, Int.tdiv_eq_ediv_of_nonneg (by omega)]; omega
    have w5 : IntKind.i64.wrap ((m : Int) + 1) = (m : Int) + 1 := by rw [IntKind.wrap_i64]; omega
    have z0 : ¬ ((n : Int) = 0) := by omega
    have z00 : ((n : Int) == 0) = false := by simpa using z0
    have z1 : (m : Int) < (n : Int) := by omega
    have z2 : (x : Int) < (S : Int) := by omega
    obtain ⟨wb, hwb⟩ : ∃ wb, wb = W := ⟨_, rfl⟩
    rw [← hwb] at q0 HL1 HL2 ⊢
    clear hL1 hL2 hcs hca hcx hck hcv henv k1 k2 v1 v2 hkx hvx hx hS hkc hvc hkv ih hp hm hwb w1
    go_enter Tryz.func129, Tryz.ntmps129
    go_upto_region 4 with (fail)

    have qd : wb.drew.cell? ⟨F, 0, none⟩ = some (.func (.func 129) #[] #[.pointer (some ⟨F, 0, none⟩), .pointer (some ⟨K, 0, none⟩), .pointer (some ⟨V, 0, none⟩)]) ∧ wb.drew.cell? ⟨K, 0, none⟩ = some (.slice (some ⟨kb, ko, none⟩) S kc) ∧ wb.drew.cell? ⟨V, 0, none⟩ = some (.slice (some ⟨vb, vo, none⟩) S vc) ∧ wb.drew.cell? ⟨g, o + m, none⟩ = some (.int .i64 (x : Nat)) ∧ wb.drew.cell? ⟨kb, ko + x, none⟩ = some (.string kx) ∧ wb.drew.cell? ⟨vb, vo + x, none⟩ = some (.string vx) ∧ Hid (Below wb.heap.size wb wb.drew) := ⟨q0.1, q0.2.1, q0.2.2.1, q0.2.2.2.1, q0.2.2.2.2.1, q0.2.2.2.2.2.1, hide (q0.2.2.2.2.2.2.out.trans ((drew_below wb).mono q0.2.2.2.2.2.2.out.size))⟩
    refine wp_region_held_drew (S := (fun w' => w'.cell? ⟨F, 0, none⟩ = some (.func (.func 129) #[] #[.pointer (some ⟨F, 0, none⟩), .pointer (some ⟨K, 0, none⟩), .pointer (some ⟨V, 0, none⟩)]) ∧ w'.cell? ⟨K, 0, none⟩ = some (.slice (some ⟨kb, ko, none⟩) S kc) ∧ w'.cell? ⟨V, 0, none⟩ = some (.slice (some ⟨vb, vo, none⟩) S vc) ∧ w'.cell? ⟨g, o + m, none⟩ = some (.int .i64 (x : Nat)) ∧ w'.cell? ⟨kb, ko + x, none⟩ = some (.string kx) ∧ w'.cell? ⟨vb, vo + x, none⟩ = some (.string vx) ∧ Hid (Below wb.heap.size wb w'))) (by kernel_rfl) qd (fun hHeld => ?_)
    try dsimp only at hHeld
    refine take_op (i := 0) (d := 13) (OP := Op.load 150 (Operand.tmp 1)) (T := 150) (v := ?vzz1) rfl rfl rfl rfl (by kernel_rfl) (by kernel_rfl) (by kernel_rfl) (fun _ _ _ h => h) (by rfl) ?hzz1 hHeld ?rzz1
    case hzz1 => (intro w' hSw; (try dsimp only at hSw); go_simp <;> with_reducible rfl)
    try simp only [Act.put, List.setIfInBounds_toArray, List.set_cons_zero, List.set_cons_succ]
    refine take_op (i := 1) (d := 14) (OP := Op.move (Operand.tmp 0)) (T := 148) (v := ?vzz2) rfl rfl rfl rfl (by kernel_rfl) (by kernel_rfl) (by kernel_rfl) (fun _ _ _ h => h) (by rfl) ?hzz2 hHeld ?rzz2
    case hzz2 => (intro w' hSw; (try dsimp only at hSw); go_simp <;> with_reducible rfl)
    try simp only [Act.put, List.setIfInBounds_toArray, List.set_cons_zero, List.set_cons_succ]
    refine take_op (i := 2) (d := 15) (OP := Op.move (Operand.tmp 6)) (T := 3) (v := ?vzz3) rfl rfl rfl rfl (by kernel_rfl) (by kernel_rfl) (by kernel_rfl) (fun _ _ _ h => h) (by rfl) ?hzz3 hHeld ?rzz3
    case hzz3 => (intro w' hSw; (try dsimp only at hSw); go_simp <;> with_reducible rfl)
    try simp only [Act.put, List.setIfInBounds_toArray, List.set_cons_zero, List.set_cons_succ]
    refine take_op (i := 3) (d := 16) (OP := Op.slice 148 (Operand.tmp 14) none (some (Operand.tmp 15)) none) (T := 148) (v := ?vzz4) rfl rfl rfl rfl (by kernel_rfl) (by kernel_rfl) (by kernel_rfl) (fun _ _ _ h => h) (by rfl) ?hzz4 hHeld ?rzz4
    case hzz4 => (intro w' hSw; (try dsimp only at hSw); go_simp <;> with_reducible rfl)
    try simp only [Act.put, List.setIfInBounds_toArray, List.set_cons_zero, List.set_cons_succ]
    refine take_op (i := 5) (d := 18) (OP := Op.load 63 (Operand.tmp 2)) (T := 63) (v := ?vzz5) rfl rfl rfl rfl (by kernel_rfl) (by kernel_rfl) (by kernel_rfl) (fun _ _ _ h => h) (by rfl) ?hzz5 hHeld ?rzz5
    case hzz5 => (intro w' hSw; (try dsimp only at hSw); go_simp <;> with_reducible rfl)
    try simp only [Act.put, List.setIfInBounds_toArray, List.set_cons_zero, List.set_cons_succ]
    refine take_op (i := 6) (d := 19) (OP := Op.move (Operand.tmp 0)) (T := 148) (v := ?vzz6) rfl rfl rfl rfl (by kernel_rfl) (by kernel_rfl) (by kernel_rfl) (fun _ _ _ h => h) (by rfl) ?hzz6 hHeld ?rzz6
    case hzz6 => (intro w' hSw; (try dsimp only at hSw); go_simp <;> with_reducible rfl)
    try simp only [Act.put, List.setIfInBounds_toArray, List.set_cons_zero, List.set_cons_succ]
    refine take_op (i := 7) (d := 20) (OP := Op.move (Operand.tmp 6)) (T := 3) (v := ?vzz7) rfl rfl rfl rfl (by kernel_rfl) (by kernel_rfl) (by kernel_rfl) (fun _ _ _ h => h) (by rfl) ?hzz7 hHeld ?rzz7
    case hzz7 => (intro w' hSw; (try dsimp only at hSw); go_simp <;> with_reducible rfl)
    try simp only [Act.put, List.setIfInBounds_toArray, List.set_cons_zero, List.set_cons_succ]
    refine take_op (i := 8) (d := 21) (OP := Op.indexAddr 148 (Operand.tmp 19) (Operand.tmp 20)) (T := 0) (v := ?vzz8) rfl rfl rfl rfl (by kernel_rfl) (by kernel_rfl) (by kernel_rfl) (fun _ _ _ h => h) (by rfl) ?hzz8 hHeld ?rzz8
    case hzz8 => (intro w' hSw; (try dsimp only at hSw); go_simp <;> with_reducible rfl)
    try simp only [Act.put, List.setIfInBounds_toArray, List.set_cons_zero, List.set_cons_succ]
    refine take_op (i := 9) (d := 22) (OP := Op.load 3 (Operand.tmp 21)) (T := 3) (v := ?vzz9) rfl rfl rfl rfl (by kernel_rfl) (by kernel_rfl) (by kernel_rfl) (fun _ _ _ h => h) (by rfl) ?hzz9 hHeld ?rzz9
    case hzz9 => (intro w' hSw; (try dsimp only at hSw); go_simp <;> with_reducible rfl)
    try simp only [Act.put, List.setIfInBounds_toArray, List.set_cons_zero, List.set_cons_succ]
    refine take_op (i := 10) (d := 23) (OP := Op.indexAddr 63 (Operand.tmp 18) (Operand.tmp 22)) (T := 0) (v := ?vzz10) rfl rfl rfl rfl (by kernel_rfl) (by kernel_rfl) (by kernel_rfl) (fun _ _ _ h => h) (by rfl) ?hzz10 hHeld ?rzz10
    case hzz10 => (intro w' hSw; (try dsimp only at hSw); go_simp <;> with_reducible rfl)
    try simp only [Act.put, List.setIfInBounds_toArray, List.set_cons_zero, List.set_cons_succ]
    refine take_op (i := 11) (d := 24) (OP := Op.load 9 (Operand.tmp 23)) (T := 9) (v := ?vzz11) rfl rfl rfl rfl (by kernel_rfl) (by kernel_rfl) (by kernel_rfl) (fun _ _ _ h => h) (by rfl) ?hzz11 hHeld ?rzz11
    case hzz11 => (intro w' hSw; (try dsimp only at hSw); go_simp <;> with_reducible rfl)
    try simp only [Act.put, List.setIfInBounds_toArray, List.set_cons_zero, List.set_cons_succ]
    refine take_op (i := 12) (d := 25) (OP := Op.load 63 (Operand.tmp 3)) (T := 63) (v := ?vzz12) rfl rfl rfl rfl (by kernel_rfl) (by kernel_rfl) (by kernel_rfl) (fun _ _ _ h => h) (by rfl) ?hzz12 hHeld ?rzz12
    case hzz12 => (intro w' hSw; (try dsimp only at hSw); go_simp <;> with_reducible rfl)
    try simp only [Act.put, List.setIfInBounds_toArray, List.set_cons_zero, List.set_cons_succ]
    refine take_op (i := 13) (d := 26) (OP := Op.move (Operand.tmp 0)) (T := 148) (v := ?vzz13) rfl rfl rfl rfl (by kernel_rfl) (by kernel_rfl) (by kernel_rfl) (fun _ _ _ h => h) (by rfl) ?hzz13 hHeld ?rzz13
    case hzz13 => (intro w' hSw; (try dsimp only at hSw); go_simp <;> with_reducible rfl)
    try simp only [Act.put, List.setIfInBounds_toArray, List.set_cons_zero, List.set_cons_succ]
    refine take_op (i := 14) (d := 27) (OP := Op.move (Operand.tmp 6)) (T := 3) (v := ?vzz14) rfl rfl rfl rfl (by kernel_rfl) (by kernel_rfl) (by kernel_rfl) (fun _ _ _ h => h) (by rfl) ?hzz14 hHeld ?rzz14
    case hzz14 => (intro w' hSw; (try dsimp only at hSw); go_simp <;> with_reducible rfl)
    try simp only [Act.put, List.setIfInBounds_toArray, List.set_cons_zero, List.set_cons_succ]
    refine take_op (i := 15) (d := 28) (OP := Op.indexAddr 148 (Operand.tmp 26) (Operand.tmp 27)) (T := 0) (v := ?vzz15) rfl rfl rfl rfl (by kernel_rfl) (by kernel_rfl) (by kernel_rfl) (fun _ _ _ h => h) (by rfl) ?hzz15 hHeld ?rzz15
    case hzz15 => (intro w' hSw; (try dsimp only at hSw); go_simp <;> with_reducible rfl)
    try simp only [Act.put, List.setIfInBounds_toArray, List.set_cons_zero, List.set_cons_succ]
    refine take_op (i := 16) (d := 29) (OP := Op.load 3 (Operand.tmp 28)) (T := 3) (v := ?vzz16) rfl rfl rfl rfl (by kernel_rfl) (by kernel_rfl) (by kernel_rfl) (fun _ _ _ h => h) (by rfl) ?hzz16 hHeld ?rzz16
    case hzz16 => (intro w' hSw; (try dsimp only at hSw); go_simp <;> with_reducible rfl)
    try simp only [Act.put, List.setIfInBounds_toArray, List.set_cons_zero, List.set_cons_succ]
    refine take_op (i := 17) (d := 30) (OP := Op.indexAddr 63 (Operand.tmp 25) (Operand.tmp 29)) (T := 0) (v := ?vzz17) rfl rfl rfl rfl (by kernel_rfl) (by kernel_rfl) (by kernel_rfl) (fun _ _ _ h => h) (by rfl) ?hzz17 hHeld ?rzz17
    case hzz17 => (intro w' hSw; (try dsimp only at hSw); go_simp <;> with_reducible rfl)
    try simp only [Act.put, List.setIfInBounds_toArray, List.set_cons_zero, List.set_cons_succ]
    refine take_op (i := 18) (d := 31) (OP := Op.load 9 (Operand.tmp 30)) (T := 9) (v := ?vzz18) rfl rfl rfl rfl (by kernel_rfl) (by kernel_rfl) (by kernel_rfl) (fun _ _ _ h => h) (by rfl) ?hzz18 hHeld ?rzz18
    case hzz18 => (intro w' hSw; (try dsimp only at hSw); go_simp <;> with_reducible rfl)
    try simp only [Act.put, List.setIfInBounds_toArray, List.set_cons_zero, List.set_cons_succ]
    refine take_op (i := 19) (d := 32) (OP := Op.load 150 (Operand.tmp 1)) (T := 150) (v := ?vzz19) rfl rfl rfl rfl (by kernel_rfl) (by kernel_rfl) (by kernel_rfl) (fun _ _ _ h => h) (by rfl) ?hzz19 hHeld ?rzz19
    case hzz19 => (intro w' hSw; (try dsimp only at hSw); go_simp <;> with_reducible rfl)
    try simp only [Act.put, List.setIfInBounds_toArray, List.set_cons_zero, List.set_cons_succ]
    refine take_op (i := 20) (d := 33) (OP := Op.move (Operand.tmp 0)) (T := 148) (v := ?vzz20) rfl rfl rfl rfl (by kernel_rfl) (by kernel_rfl) (by kernel_rfl) (fun _ _ _ h => h) (by rfl) ?hzz20 hHeld ?rzz20
    case hzz20 => (intro w' hSw; (try dsimp only at hSw); go_simp <;> with_reducible rfl)
    try simp only [Act.put, List.setIfInBounds_toArray, List.set_cons_zero, List.set_cons_succ]
    refine take_op (i := 21) (d := 34) (OP := Op.move (Operand.tmp 6)) (T := 3) (v := ?vzz21) rfl rfl rfl rfl (by kernel_rfl) (by kernel_rfl) (by kernel_rfl) (fun _ _ _ h => h) (by rfl) ?hzz21 hHeld ?rzz21
    case hzz21 => (intro w' hSw; (try dsimp only at hSw); go_simp <;> with_reducible rfl)
    try simp only [Act.put, List.setIfInBounds_toArray, List.set_cons_zero, List.set_cons_succ]
    refine take_op (i := 22) (d := 35) (OP := Op.binOp BinOp.add 3 (Operand.tmp 34) (Operand.const (Value.int IntKind.i64 1)) 3) (T := 3) (v := ?vzz22) rfl rfl rfl rfl (by kernel_rfl) (by kernel_rfl) (by kernel_rfl) (fun _ _ _ h => h) (by rfl) ?hzz22 hHeld ?rzz22
    case hzz22 => (intro w' hSw; (try dsimp only at hSw); go_simp <;> with_reducible rfl)
    try simp only [Act.put, List.setIfInBounds_toArray, List.set_cons_zero, List.set_cons_succ]
    refine take_op (i := 23) (d := 36) (OP := Op.slice 148 (Operand.tmp 33) (some (Operand.tmp 35)) none none) (T := 148) (v := ?vzz23) rfl rfl rfl rfl (by kernel_rfl) (by kernel_rfl) (by kernel_rfl) (fun _ _ _ h => h) (by rfl) ?hzz23 hHeld ?rzz23
    case hzz23 => (intro w' hSw; (try dsimp only at hSw); go_simp <;> with_reducible rfl)
    try simp only [Act.put, List.setIfInBounds_toArray, List.set_cons_zero, List.set_cons_succ]
    refine call_op (i := 4) (d := 17) (OP := Op.call { callee := Callee.value (Operand.tmp 13), args := #[Operand.tmp 16], argTypes := #[148] }) (T := 25) (f := 129) (args := #[.slice (some ⟨g, o, none⟩) m cap, .pointer (some ⟨F, 0, none⟩), .pointer (some ⟨K, 0, none⟩), .pointer (some ⟨V, 0, none⟩)]) rfl rfl rfl rfl (by kernel_rfl) (by rfl) (by go_simp) ?_
    refine (HL1.out _ qd.2.2.2.2.2.2.out).mono ?_
    rintro e w1 ⟨t1, ⟨rfl, i1, b1⟩, l1, h1, B1⟩
    have qw1 : w1.cell? ⟨F, 0, none⟩ = some (.func (.func 129) #[] #[.pointer (some ⟨F, 0, none⟩), .pointer (some ⟨K, 0, none⟩), .pointer (some ⟨V, 0, none⟩)]) ∧ w1.cell? ⟨K, 0, none⟩ = some (.slice (some ⟨kb, ko, none⟩) S kc) ∧ w1.cell? ⟨V, 0, none⟩ = some (.slice (some ⟨vb, vo, none⟩) S vc) ∧ w1.cell? ⟨g, o + m, none⟩ = some (.int .i64 (x : Nat)) ∧ w1.cell? ⟨kb, ko + x, none⟩ = some (.string kx) ∧ w1.cell? ⟨vb, vo + x, none⟩ = some (.string vx) ∧ Hid (Below wb.heap.size wb w1) := ⟨cell_stays qd.1 b1, cell_stays qd.2.1 b1, cell_stays qd.2.2.1 b1, cell_stays qd.2.2.2.1 b1, cell_stays qd.2.2.2.2.1 b1, cell_stays qd.2.2.2.2.2.1 b1, hide (qd.2.2.2.2.2.2.out.trans (b1.mono qd.2.2.2.2.2.2.out.size))⟩
    refine ⟨_, rfl, qw1, ?_⟩
    replace hHeld := qw1
    try simp only [Act.put, List.setIfInBounds_toArray, List.set_cons_zero, List.set_cons_succ]
    refine call_op (i := 24) (d := 37) (OP := Op.call { callee := Callee.value (Operand.tmp 32), args := #[Operand.tmp 36], argTypes := #[148] }) (T := 25) (f := 129) (args := #[.slice (some ⟨g, O, none⟩) (n - (m + 1)) (cap - (m + 1)), .pointer (some ⟨F, 0, none⟩), .pointer (some ⟨K, 0, none⟩), .pointer (some ⟨V, 0, none⟩)]) rfl rfl rfl rfl (by kernel_rfl) (by rfl) (by go_simp) ?_
    refine (HL2.out _ (qw1.2.2.2.2.2.2).out).mono ?_
    rintro e w2 ⟨t2, ⟨rfl, i2, b2⟩, l2, h2, B2⟩
    have qw2 : w2.cell? ⟨F, 0, none⟩ = some (.func (.func 129) #[] #[.pointer (some ⟨F, 0, none⟩), .pointer (some ⟨K, 0, none⟩), .pointer (some ⟨V, 0, none⟩)]) ∧ w2.cell? ⟨K, 0, none⟩ = some (.slice (some ⟨kb, ko, none⟩) S kc) ∧ w2.cell? ⟨V, 0, none⟩ = some (.slice (some ⟨vb, vo, none⟩) S vc) ∧ w2.cell? ⟨g, o + m, none⟩ = some (.int .i64 (x : Nat)) ∧ w2.cell? ⟨kb, ko + x, none⟩ = some (.string kx) ∧ w2.cell? ⟨vb, vo + x, none⟩ = some (.string vx) ∧ Hid (Below wb.heap.size wb w2) := ⟨cell_stays qw1.1 b2, cell_stays qw1.2.1 b2, cell_stays qw1.2.2.1 b2, cell_stays qw1.2.2.2.1 b2, cell_stays qw1.2.2.2.2.1 b2, cell_stays qw1.2.2.2.2.2.1 b2, hide (qw1.2.2.2.2.2.2.out.trans (b2.mono qw1.2.2.2.2.2.2.out.size))⟩
    refine ⟨_, rfl, qw2, ?_⟩
    replace hHeld := qw2
    try simp only [Act.put, List.setIfInBounds_toArray, List.set_cons_zero, List.set_cons_succ]
    have HT := hide (And.intro l1 (And.intro h1 (And.intro B1 (And.intro l2 (And.intro h2 B2)))))
    have hns : t1.n + t2.n ≤ 1000000 := by rw [← T.n_eq, ← T.n_eq, l1, l2, List.length_map, List.length_map]; have := HN.out; rw [List.length_take, List.length_drop]; omega
    refine call_op (i := 25) (d := 38) (OP := Op.call { callee := Callee.value (Operand.func 130), args := #[Operand.tmp 17, Operand.tmp 24, Operand.tmp 31, Operand.tmp 37], argTypes := #[25, 9, 9, 25] }) (T := 25) (f := 130) (args := #[t1.ptr, .string kx, .string vx, t2.ptr]) rfl rfl rfl rfl (by kernel_rfl) (by rfl) (by go_simp) ?_
    refine (made_any t1 t2 kx vx w2 (In.below b2 i1) i2 hns).mono ?_
    rintro e w3 ⟨rfl, i3, b3⟩
    have qw3 : w3.cell? ⟨F, 0, none⟩ = some (.func (.func 129) #[] #[.pointer (some ⟨F, 0, none⟩), .pointer (some ⟨K, 0, none⟩), .pointer (some ⟨V, 0, none⟩)]) ∧ w3.cell? ⟨K, 0, none⟩ = some (.slice (some ⟨kb, ko, none⟩) S kc) ∧ w3.cell? ⟨V, 0, none⟩ = some (.slice (some ⟨vb, vo, none⟩) S vc) ∧ w3.cell? ⟨g, o + m, none⟩ = some (.int .i64 (x : Nat)) ∧ w3.cell? ⟨kb, ko + x, none⟩ = some (.string kx) ∧ w3.cell? ⟨vb, vo + x, none⟩ = some (.string vx) ∧ Hid (Below wb.heap.size wb w3) := ⟨cell_stays qw2.1 b3, cell_stays qw2.2.1 b3, cell_stays qw2.2.2.1 b3, cell_stays qw2.2.2.2.1 b3, cell_stays qw2.2.2.2.2.1 b3, cell_stays qw2.2.2.2.2.2.1 b3, hide (qw2.2.2.2.2.2.2.out.trans (b3.mono qw2.2.2.2.2.2.2.out.size))⟩
    refine ⟨_, rfl, qw3, ?_⟩
    replace hHeld := qw3
    try simp only [Act.put, List.setIfInBounds_toArray, List.set_cons_zero, List.set_cons_succ]
    refine take_op (i := 26) (d := 5) (OP := Op.assign (Operand.tmp 38)) (T := 25) (v := ?vzz24) rfl rfl rfl rfl (by kernel_rfl) (by kernel_rfl) (by kernel_rfl) (fun _ _ _ h => h) (by rfl) ?hzz24 hHeld ?rzz24
    case hzz24 => (intro w' hSw; (try dsimp only at hSw); go_simp <;> with_reducible rfl)
    try simp only [Act.put, List.setIfInBounds_toArray, List.set_cons_zero, List.set_cons_succ]
    refine wpAnyH_done (by kernel_rfl) ?_ _
    go_wp2
    go_ret
    obtain ⟨l1, h1, B1, l2, h2, B2⟩ := HT.out
    obtain ⟨hpn, hn, hmn, hm, h0, hx⟩ := HN.out
    obtain ⟨e1, e2, e3⟩ := halves h0 hm
    refine ⟨_, ⟨rfl, i3, qw3.2.2.2.2.2.2.out⟩, ?_, ?_, ?_⟩
    · rw [T.list, l1, l2, ← HE.out, ← List.map_cons, ← List.map_append]
      congr 1
      have hml : m < p.length := by omega
      have e4 : x = p[m] := by rw [List.getElem?_eq_getElem hml] at hx; exact (Option.some.inj hx).symm
      rw [e4, List.getElem_cons_drop, List.take_append_drop]
    · rw [T.h, h1, h2, e1]
    · exact ⟨by rw [h1, h2]; exact e2, by rw [h1, h2]; exact e3, B1, B2⟩
end Go.Proofs.YtkeldhohilmdcaaGreat.Pm
