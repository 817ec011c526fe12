/-
  rising: THE PLACES OF KEYS, BY THE KEYS' ORDER.
  half: THE CLOSURE OF Of: a tree out of places, halves by halves.
-/
import Derived.Test.YtkkpdgfllnbigaaGreatMg17
namespace Go.Proofs.YtkkpdgfllnbigaaGreat.Pm
open Go.RowKit Go.Shelf
set_option linter.unusedSimpArgs false

def pl (N i : Nat) : List Value := (List.range N).map fun j => .int .i64 (if j < i then ((j : Nat) : Int) else 0)
theorem pl_get {N i j : Nat} (h : j < N) : (pl N i)[j]? = some (.int .i64 (if j < i then ((j : Nat) : Int) else 0)) := by simp [pl, h]
theorem pl_len (N i : Nat) : (pl N i).length = N := by simp [pl]
theorem pl_set {N i : Nat} (h : i < N) : (pl N i).set i (.int .i64 ((i : Nat) : Int)) = pl N (i + 1) := by
  apply List.ext_getElem?
  intro j
  rw [List.getElem?_set]
  by_cases e : i = j
  · subst e; simp [pl, h]
  · rw [if_neg e]
    by_cases hj : j < N
    · rw [pl_get hj, pl_get hj]
      by_cases h1 : j < i
      · rw [if_pos h1, if_pos (by omega)]
      · rw [if_neg h1, if_neg (by omega)]
    · rw [List.getElem?_eq_none (by rw [pl_len]; omega), List.getElem?_eq_none (by rw [pl_len]; omega)]
theorem pl_zero (N : Nat) : (madeCells (Value.int .i64 0).cells (N * 1)).toList = pl N 0 := by
  show (madeCells #[Value.int .i64 0] (N * 1)).toList = _
  rw [toList_madeCells_one, Nat.mul_one]
  apply List.ext_getElem?
  intro j
  by_cases hj : j < N
  · rw [pl_get hj]; simp [hj]
  · rw [List.getElem?_eq_none (by simp; omega), List.getElem?_eq_none (by rw [pl_len]; omega)]
theorem _root_.Go.Proofs.Tryz.info3 : (Tryz.prog.info? 3).map (fun i => (i.zero, i.size, i.bytes)) = some (some (.int .i64 0), 1, 8) := by kernel_rfl

theorem ofFn_range (n : Nat) : (Array.ofFn (fun x : Fin n => x)).toList.map Fin.val = List.range n := by
  rw [Array.toList_ofFn]
  apply List.ext_getElem
  · simp
  · intro j h1 h2
    simp
/-- What rising hands back: the places in the keys' order. -/
structure Rises (ks : List ByteArray) (p : List Nat) : Prop where
  perm : p.Perm (List.range ks.length)
  up : ∀ (i j x y : Nat) (kx ky : ByteArray), i < j → p[i]? = some x → p[j]? = some y → ks[x]? = some kx → ks[y]? = some ky → cmpB ky kx ≠ -1

set_option maxHeartbeats 4000000 in
set_option maxRecDepth 100000 in
theorem rising_any (ks : List ByteArray) (v : Value) (w : World) (h : Cs w v (ks.map .string)) (hl : ks.length ≤ 100000) : Calls Tryz.prog 166 #[v] w fun e w' => ∃ g cap p, e = .returned (.slice (some ⟨g, 0, none⟩) ks.length cap) ∧ ks.length ≤ cap ∧ Rises ks p ∧ (∀ j x, p[j]? = some x → w'.cell? ⟨g, j, none⟩ = some (.int .i64 (x : Nat))) ∧ Below w.heap.size w w' := by
  obtain ⟨ao, kcap, rfl, hkc, hr⟩ := h.ex
  rw [List.length_map] at *
  have hb0 : Below w.heap.size w (w.alloc (.cells #[.slice ao ks.length kcap] 63)) := (Below.refl _ w).alloc (Nat.le_refl _) _
  have hbox : (w.alloc (.cells #[.slice ao ks.length kcap] 63)).cell? ⟨w.heap.size, 0, none⟩ = some (.slice ao ks.length kcap) := cell_new w _ 63
  obtain ⟨N, hN⟩ : ∃ N, N = ks.length := ⟨_, rfl⟩
  rw [← hN] at hbox hb0 hl hkc ⊢
  obtain ⟨w1, hw1⟩ : ∃ w1, w1 = w.alloc (.cells #[.slice ao N kcap] 63) := ⟨_, rfl⟩
  have hs1 : w1.heap.size = w.heap.size + 1 := by rw [hw1]; simp
  obtain ⟨i3, hi1, hi2, hi3, hi4⟩ := info_parts Tryz.info3
  obtain ⟨w2, hrun, hown, hgr⟩ := run_make_full (P := Tryz.prog) w1 w1.heap.size 156 3 i3 (.int .i64 0) 1 Tryz.underlying156 hi1 hi2 hi3 .i64 .i64 N (by rw [hi4]; omega) (by unfold maxLen; omega) (Nat.le_refl _)
  rw [pl_zero] at hown
  rw [← hw1] at hb0 hbox
  have hb2 : Below w1.heap.size w1 w2 := (Below.refl _ w1).grown hgr (Nat.le_refl _) (fun j hj => by cases hj)
  rw [hs1] at hown hrun
  have HW := hide hw1
  have HS := hide hs1
  have HH := hide (And.intro hb0 (And.intro hbox (And.intro hown (And.intro hb2 (And.intro hr hN)))))
  rw [hw1] at hrun
  clear h hr hb0 hbox hown hb2 hgr hi1 hi2 hi3 hi4 hs1 hw1 hN
  go_enter Tryz.func166, Tryz.ntmps166
  go_wp2
  go_loopw [10] (fun v10 wr => ∃ i : Nat, i ≤ N ∧ v10 = .int .i64 i ∧ Hid (wr.ownsRow (w.heap.size + 1) 3 1 (.slice (some ⟨w.heap.size + 1, 0, none⟩) N N) N (pl N i) ∧ Below w1.heap.size w1 wr)) (fun v10 _ => N - (intOf v10).toNat)
  case atStart => exact ⟨0, by omega, rfl, hide ⟨HH.out.2.2.1, HH.out.2.2.2.1⟩⟩
  case round =>
    obtain ⟨i, hi, rfl, HI⟩ := hrel
    by_cases hiN : i < N
    · have z1 : (i : Int) < (N : Int) := by omega
      have hc := HI.out.1.cellAt i (by omega)
      rw [pl_get hiN] at hc
      have hf := HI.out.1.frozenAt i
      have hst := HI.out.1.stored i (.int .i64 ((i : Nat) : Int))
      rw [pl_set hiN] at hst
      have HST := hide hst
      clear hst
      generalize (if i < i then ((i : Nat) : Int) else 0) = z at hc
      go_wp2
      go_roundw
      case rel => exact ⟨i + 1, by omega, by go_num, hide ⟨HST.out.1, HI.out.2.grown HST.out.2 HI.out.2.size (fun j hj => by cases hj; rw [HS.out]; exact Nat.le_refl _)⟩⟩
      case measure => simp [intOf]; omega
    · have hN : i = N := by omega
      subst hN
      have z2 : decide ((i : Int) < (i : Int)) = false := by simp
      clear hi hiN
      have hown := HI.out.1
      have hbw := HI.out.2
      have hbx := cell_stays HH.out.2.1 hbw
      cases i with
      | zero =>
        have hs : ∀ W fv, Calls Tryz.prog 204 #[.slice (some ⟨w.heap.size + 1, 0, none⟩) 0 0, fv] W fun e w' => e = .returned (.tuple #[]) ∧ w' = W := fun W fv => AnyF.slices_SortFunc_none (P := Tryz.prog) (ρ := Tryz.sortInts_ren) { Tryz.sortInts with } _ _ _ _
        clear hown hbx z2
        have HB := hide hbw
        clear hbw
        go_wp2_with (go_at_call 204; refine (hs _ _).mono ?_; rintro e w' ⟨rfl, hw⟩; replace hw := hw.symm; subst hw)
        go_ret
        exact ⟨_, _, [], rfl, Nat.le_refl _, ⟨by rw [← HH.out.2.2.2.2.2]; exact List.Perm.refl _, by simp⟩, by simp, HH.out.1.trans (HB.out.mono HH.out.1.size)⟩
      | succ M =>
        have hlen := HH.out.2.2.2.2.2
        have hr := HH.out.2.2.2.2.1
        have hkx : ∀ x : Fin (M + 1), ∃ y, ks[x.val]? = some y := fun x => ⟨ks[x.val]'(by rw [← hlen]; exact x.isLt), List.getElem?_eq_getElem _⟩
        obtain ⟨kf, hkf⟩ : ∃ kf : Fin (M + 1) → ByteArray, ∀ x, ks[x.val]? = some (kf x) := ⟨fun x => ks[x.val]'(by rw [← hlen]; exact x.isLt), fun x => List.getElem?_eq_getElem _⟩
        obtain ⟨b, off, hao, hzz⟩ := hr 0 (.string (kf ⟨0, by omega⟩)) (by rw [List.getElem?_map, hkf ⟨0, by omega⟩]; rfl)
        have hk : ∀ x : Fin (M + 1), w.cell? ⟨b, off + x.val, none⟩ = some (.string (kf x)) := fun x => by
          obtain ⟨b', off', h1, h2⟩ := hr x.val (.string (kf x)) (by rw [List.getElem?_map, hkf x]; rfl)
          rw [hao] at h1
          simp only [Option.some.injEq, Addr.mk.injEq] at h1
          obtain ⟨rfl, rfl, _⟩ := h1
          exact h2
        have hbw0 := HH.out.1.trans (hbw.mono HH.out.1.size)
        have hblt : b < w.heap.size := World.block_lt_of_cell? w _ (hk ⟨0, by omega⟩)
        have hH : Sort.Holds encP wr (w.heap.size + 1) 0 (Array.ofFn (fun x : Fin (M + 1) => x)) := fun j hj => by
          have hj' : j < M + 1 := by simpa using hj
          refine ⟨?_, hown.frozenAt _⟩
          rw [Nat.zero_add, hown.cellAt j (by omega), pl_get hj', getElem!_pos _ j hj]
          simp [encP, hj']
        have hs := sort63 M kf w.heap.size (w.heap.size + 1) b off (M + 1) kcap (Array.ofFn (fun x : Fin (M + 1) => x)) (by simp) wr (by rw [← hao]; exact hbx) (fun x => cell_stays (hk x) hbw0) (by omega) (by omega) hH (by omega)
        have HB := hide hbw0
        have HK := hide hkf
        have HL := hide hlen
        clear hzz
        clear hown hbx hk hH hr hkx hkf hlen hbw hbw0 hblt hao z2
        go_wp2_with (go_at_call 204; refine hs.mono ?_; rintro e w' ⟨rfl, d', hsz, hp, hup, hhd, ho⟩)
        go_ret
        refine ⟨_, _, d'.toList.map Fin.val, rfl, Nat.le_refl _, ⟨?_, ?_⟩, ?_, HB.out.trans (ho.below HB.out.size (fun k e => by rw [e]; omega))⟩
        · rw [← HL.out]
          refine (hp.map Fin.val).trans ?_
          rw [ofFn_range]
        · intro i j x y kx ky hij hx hy hkx hky
          rw [List.getElem?_map] at hx hy
          obtain ⟨fx, hfx, rfl⟩ := Option.map_eq_some_iff.1 hx
          obtain ⟨fy, hfy, rfl⟩ := Option.map_eq_some_iff.1 hy
          have hjl := (List.getElem?_eq_some_iff.1 hfy).1
          rw [Array.length_toList, hsz] at hjl
          have := hup i j hij hjl
          rw [Array.getElem?_toList] at hfx hfy
          rw [Array.getElem!_eq_getD, Array.getElem!_eq_getD, Array.getD_eq_getD_getElem?, Array.getD_eq_getD_getElem?, hfx, hfy] at this
          rw [HK.out fx] at hkx
          rw [HK.out fy] at hky
          cases hkx
          cases hky
          exact this
        · intro j x hx
          rw [List.getElem?_map] at hx
          obtain ⟨fx, hfx, rfl⟩ := Option.map_eq_some_iff.1 hx
          have hjl := (List.getElem?_eq_some_iff.1 hfx).1
          rw [Array.length_toList] at hjl
          have := (hhd j hjl).1
          rw [Array.getElem?_toList] at hfx
          rw [Nat.zero_add, Array.getElem!_eq_getD, Array.getD_eq_getD_getElem?, hfx] at this
          exact this
end Go.Proofs.YtkkpdgfllnbigaaGreat.Pm
namespace Go.Proofs.YtkkpdgfllnbigaaGreat.Pm
open Go.RowKit Go.Shelf
set_option linter.unusedSimpArgs false

abbrev Nm := ByteArray × ByteArray
def hgt (n : Nat) : Nat := if h : n = 0 then 0 else hgt (n / 2) + 1
decreasing_by omega
theorem hgt_zero : hgt 0 = 0 := by rw [hgt]; rfl
theorem hgt_pos {n : Nat} (h : n ≠ 0) : hgt n = hgt (n / 2) + 1 := by rw [hgt, dif_neg h]
theorem hgt_mono (n : Nat) : ∀ m, m ≤ n → hgt m ≤ hgt n := by
  induction n using Nat.strongRecOn with
  | ind n ih =>
    intro m hm
    by_cases h0 : m = 0
    · rw [h0, hgt_zero]; omega
    · rw [hgt_pos h0, hgt_pos (n := n) (by omega)]
      have := ih (n / 2) (by omega) (m / 2) (by omega)
      omega
theorem hgt_succ (n : Nat) : hgt (n + 1) ≤ hgt n + 1 := by
  induction n using Nat.strongRecOn with
  | ind n ih =>
    by_cases h0 : n = 0
    · subst h0; rw [hgt_pos (by omega)]; simp [hgt_zero]
    · rw [hgt_pos (n := n + 1) (by omega), hgt_pos h0]
      by_cases hp : (n + 1) / 2 = n / 2
      · rw [hp]; omega
      · have e : (n + 1) / 2 = n / 2 + 1 := by omega
        rw [e]
        have := ih (n / 2) (by omega)
        omega
theorem halves {n m : Nat} (h0 : n ≠ 0) (hm : m = n / 2) : hgt n = max (hgt m) (hgt (n - (m + 1))) + 1 ∧ hgt m ≤ hgt (n - (m + 1)) + 1 ∧ hgt (n - (m + 1)) ≤ hgt m + 1 := by
  have h1 := hgt_mono m (n - (m + 1)) (by omega)
  have h2 := hgt_mono (n - (m + 1) + 1) m (by omega)
  have h3 := hgt_succ (n - (m + 1))
  rw [hgt_pos h0, ← hm]
  refine ⟨?_, ?_, ?_⟩
  · rw [Nat.max_eq_left h1]
  · omega
  · omega
theorem slice51_hi {g o n m cap : Nat} (hm : m ≤ cap) (hc : 0 < cap) (w' : World) : (Instr.slice 156 (.slice (some ⟨g, o, none⟩) n cap) none (some (.int .i64 (m : Nat))) none).run Tryz.prog w' = .ok (.slice (some ⟨g, o, none⟩) m cap) w' := by
  have h2 : (0 : Int) ≤ (m : Int) ∧ (m : Int) ≤ (cap : Int) := by omega
  have h3 : ¬ cap = 0 := by omega
  simp [Instr.slice, Instr.sliceBounds, Instr.sliceBound, asIntOf, run_underlying Tryz.underlying156, go_sem, hm, h3, Tryz.sizeOf3, add_lit]
theorem slice51_lo {g o n m cap : Nat} (hm : m ≤ n) (hc : n ≤ cap) (w' : World) : (Instr.slice 156 (.slice (some ⟨g, o, none⟩) n cap) (some (.int .i64 (m : Nat))) none none).run Tryz.prog w' = .ok (.slice (some ⟨g, (if cap = m then o else o + m), none⟩) (n - m) (cap - m)) w' := by
  have hcm : m ≤ cap := Nat.le_trans hm hc
  have h2 : (0 : Int) ≤ (m : Int) ∧ (m : Int) ≤ (n : Int) := by omega
  by_cases h : cap = m
  · simp [Instr.slice, Instr.sliceBounds, Instr.sliceBound, asIntOf, run_underlying Tryz.underlying156, go_sem, hm, hcm, Tryz.sizeOf3, add_lit, h]
  · simp [Instr.slice, Instr.sliceBounds, Instr.sliceBound, asIntOf, run_underlying Tryz.underlying156, go_sem, hm, hcm, Tryz.sizeOf3, add_lit, h]

/-- What the closure has. -/
structure HEnv (W : World) (F K V : Nat) (ks : List ByteArray) (vs : List ByteArray) : Prop where
  f : W.cell? ⟨F, 0, none⟩ = some (.func (.func 167) #[] #[.pointer (some ⟨F, 0, none⟩), .pointer (some ⟨K, 0, none⟩), .pointer (some ⟨V, 0, none⟩)])
  k : ∃ kv, W.cell? ⟨K, 0, none⟩ = some kv ∧ Cs W kv (ks.map .string)
  v : ∃ vv, W.cell? ⟨V, 0, none⟩ = some vv ∧ Cs W vv (vs.map .string)
theorem HEnv.below {W W' : World} {F K V : Nat} {ks : List ByteArray} {vs : List ByteArray} (h : HEnv W F K V ks vs) (hb : Below W.heap.size W W') : HEnv W' F K V ks vs := by
  obtain ⟨kv, k1, k2⟩ := h.k
  obtain ⟨vv, v1, v2⟩ := h.v
  exact ⟨cell_stays h.f hb, ⟨kv, cell_stays k1 hb, k2.below hb⟩, ⟨vv, cell_stays v1 hb, v2.below hb⟩⟩
def ent (ks : List ByteArray) (vs : List ByteArray) (i : Nat) : Nm := (ks[i]?.getD ⟨#[]⟩, vs[i]?.getD ⟨#[]⟩)
theorem Cs.at {w : World} {v : Value} {l : List Value} {j : Nat} {u : Value} (h : Cs w v l) (hj : l[j]? = some u) : ∃ b off cap, v = .slice (some ⟨b, off, none⟩) l.length cap ∧ l.length ≤ cap ∧ w.cell? ⟨b, off + j, none⟩ = some u ∧ ∀ i u, l[i]? = some u → w.cell? ⟨b, off + i, none⟩ = some u := by
  obtain ⟨ao, cap, rfl, hc, hr⟩ := h.ex
  obtain ⟨b, off, rfl, h1⟩ := hr j u hj
  exact ⟨b, off, cap, rfl, hc, h1, fun i u hi => by
    obtain ⟨b', off', e, h2⟩ := hr i u hi
    simp only [Option.some.injEq, Addr.mk.injEq] at e
    obtain ⟨rfl, rfl, _⟩ := e
    exact h2⟩

set_option maxHeartbeats 4000000 in
set_option maxRecDepth 100000 in
theorem half_any (F K V : Nat) (ks : List ByteArray) (vs : List ByteArray) (hkv : ks.length = vs.length) : ∀ (n : Nat) (p : List Nat) (sv : Value) (W : World), p.length = n → n ≤ 100000 → (∀ i ∈ p, i < ks.length) → HEnv W F K V ks vs → Cs W sv (p.map fun i => .int .i64 ((i : Nat) : Int)) →
    Calls Tryz.prog 167 #[sv, .pointer (some ⟨F, 0, none⟩), .pointer (some ⟨K, 0, none⟩), .pointer (some ⟨V, 0, none⟩)] W fun e w' => ∃ t, Gives W e w' t ∧ t.list = p.map (ent ks vs) ∧ t.h = hgt n ∧ t.bal ∧ t.over W.heap.size := by
  intro n
  induction n using Nat.strongRecOn with
  | ind n ih =>
  intro p sv W hpn hn hp henv hcs
  by_cases h0 : n = 0
  · subst h0
    have hp0 : p = [] := List.eq_nil_of_length_eq_zero hpn
    subst hp0
    obtain ⟨ao, cap, rfl, _, _⟩ := hcs.ex
    simp only [List.map_nil, List.length_nil]
    go_enter Tryz.func167, Tryz.ntmps167
    go_wp2
    go_ret
    exact ⟨.nil, ⟨rfl, trivial, Below.refl _ _⟩, rfl, hgt_zero.symm, trivial, T.over_nil⟩
  · obtain ⟨m, hm⟩ : ∃ m, m = n / 2 := ⟨_, rfl⟩
    have hmn : m < n := by omega
    obtain ⟨x, hx⟩ : ∃ x, p[m]? = some x := ⟨p[m]'(by omega), List.getElem?_eq_getElem _⟩
    have hxk := hp x (List.mem_of_getElem? hx)
    obtain ⟨kx, hkx⟩ : ∃ y, ks[x]? = some y := ⟨ks[x]'hxk, List.getElem?_eq_getElem _⟩
    obtain ⟨vx, hvx⟩ : ∃ y, vs[x]? = some y := ⟨vs[x]'(by omega), List.getElem?_eq_getElem _⟩
    obtain ⟨g, o, cap, rfl, hcap, hcx, hca⟩ := hcs.at (j := m) (u := .int .i64 ((x : Nat) : Int)) (by rw [List.getElem?_map, hx]; rfl)
    obtain ⟨kv, k1, k2⟩ := henv.k
    obtain ⟨vv, v1, v2⟩ := henv.v
    obtain ⟨kb, ko, kc, rfl, hkc, hck, _⟩ := k2.at (j := x) (u := .string kx) (by rw [List.getElem?_map, hkx]; rfl)
    obtain ⟨vb, vo, vc, rfl, hvc, hcv, _⟩ := v2.at (j := x) (u := .string vx) (by rw [List.getElem?_map, hvx]; rfl)
    rw [List.length_map] at *
    rw [hpn] at hcap hcs ⊢
    have hL1 : ∀ w', Below W.heap.size W w' → Calls Tryz.prog 167 #[.slice (some ⟨g, o, none⟩) m cap, .pointer (some ⟨F, 0, none⟩), .pointer (some ⟨K, 0, none⟩), .pointer (some ⟨V, 0, none⟩)] w' fun e w'' => ∃ t, Gives w' e w'' t ∧ t.list = (p.take m).map (ent ks vs) ∧ t.h = hgt m ∧ t.bal ∧ t.over w'.heap.size := fun w' hw' => by
      refine ih m hmn (p.take m) _ w' (by rw [List.length_take]; omega) (by omega) (fun i hi => hp i (List.mem_of_mem_take hi)) (henv.below hw') ⟨some ⟨g, o, none⟩, cap, by simp [List.length_take, hpn]; omega, by simp [List.length_take]; omega, fun j u hj => ⟨g, o, rfl, ?_⟩⟩
      rw [List.map_take, List.getElem?_take] at hj
      split at hj
      · exact cell_stays (hca j u hj) hw'
      · cases hj
    have hL2 : ∀ w', Below W.heap.size W w' → Calls Tryz.prog 167 #[.slice (some ⟨g, (if cap = m + 1 then o else o + (m + 1)), none⟩) (n - (m + 1)) (cap - (m + 1)), .pointer (some ⟨F, 0, none⟩), .pointer (some ⟨K, 0, none⟩), .pointer (some ⟨V, 0, none⟩)] w' fun e w'' => ∃ t, Gives w' e w'' t ∧ t.list = (p.drop (m + 1)).map (ent ks vs) ∧ t.h = hgt (n - (m + 1)) ∧ t.bal ∧ t.over w'.heap.size := fun w' hw' => by
      refine ih (n - (m + 1)) (by omega) (p.drop (m + 1)) _ w' (by rw [List.length_drop, hpn]) (by omega) (fun i hi => hp i (List.mem_of_mem_drop hi)) (henv.below hw') ⟨some ⟨g, (if cap = m + 1 then o else o + (m + 1)), none⟩, cap - (m + 1), by simp [hpn], by simp [hpn]; omega, fun j u hj => ⟨g, (if cap = m + 1 then o else o + (m + 1)), rfl, ?_⟩⟩
      rw [List.map_drop, List.getElem?_drop] at hj
      have hlt := (List.getElem?_eq_some_iff.1 hj).1
      rw [List.length_map, hpn] at hlt
      rw [if_neg (by omega), Nat.add_assoc]
      exact cell_stays (hca (m + 1 + j) u hj) hw'
    have q0 : W.cell? ⟨F, 0, none⟩ = some (.func (.func 167) #[] #[.pointer (some ⟨F, 0, none⟩), .pointer (some ⟨K, 0, none⟩), .pointer (some ⟨V, 0, none⟩)]) ∧ W.cell? ⟨K, 0, none⟩ = some (.slice (some ⟨kb, ko, none⟩) ks.length kc) ∧ W.cell? ⟨V, 0, none⟩ = some (.slice (some ⟨vb, vo, none⟩) ks.length vc) ∧ W.cell? ⟨g, o + m, none⟩ = some (.int .i64 (x : Nat)) ∧ W.cell? ⟨kb, ko + x, none⟩ = some (.string kx) ∧ W.cell? ⟨vb, vo + x, none⟩ = some (.string vx) ∧ Hid (Below W.heap.size W W) := ⟨henv.f, k1, by rw [hkv]; exact v1, hcx, hck, hcv, hide (Below.refl _ _)⟩
    have s1 := fun w' => slice51_hi (g := g) (o := o) (n := n) (m := m) (cap := cap) (by omega) (by omega) w'
    have s2 := fun w' => slice51_lo (g := g) (o := o) (n := n) (m := m + 1) (cap := cap) (by omega) (by omega) w'
    have w1 : ((m + 1 : Nat) : Int) = (m : Int) + 1 := by omega
    rw [w1] at s2
    generalize (if cap = m + 1 then o else o + (m + 1)) = O at hL2 s2
    have HL1 := hide hL1
    have HL2 := hide hL2
    have HE : Hid ((ent ks vs x) = (kx, vx)) := hide (by unfold ent; rw [hkx, hvx]; rfl)
    have HN := hide (And.intro hpn (And.intro hn (And.intro hmn (And.intro hm (And.intro h0 hx)))))
    obtain ⟨S, hS⟩ : ∃ S, S = ks.length := ⟨_, rfl⟩
    rw [← hS] at q0 hxk
    have hq : Int.tdiv (n : Int) 2 = (m : Int) := by rw [hm, Int.tdiv_eq_ediv_of_nonneg (by omega)]; omega
    have w5 : IntKind.i64.wrap ((m : Int) + 1) = (m : Int) + 1 := by rw [IntKind.wrap_i64]; omega
    have z0 : ¬ ((n : Int) = 0) := by omega
    have z00 : ((n : Int) == 0) = false := by simpa using z0
    have z1 : (m : Int) < (n : Int) := by omega
    have z2 : (x : Int) < (S : Int) := by omega
    obtain ⟨wb, hwb⟩ : ∃ wb, wb = W := ⟨_, rfl⟩
    rw [← hwb] at q0 HL1 HL2 ⊢
    clear hL1 hL2 hcs hca hcx hck hcv henv k1 k2 v1 v2 hkx hvx hx hS hkc hvc hkv ih hp hm hwb w1
    go_enter Tryz.func167, Tryz.ntmps167
    go_upto_region 4 with (fail)

    have qd : wb.drew.cell? ⟨F, 0, none⟩ = some (.func (.func 167) #[] #[.pointer (some ⟨F, 0, none⟩), .pointer (some ⟨K, 0, none⟩), .pointer (some ⟨V, 0, none⟩)]) ∧ wb.drew.cell? ⟨K, 0, none⟩ = some (.slice (some ⟨kb, ko, none⟩) S kc) ∧ wb.drew.cell? ⟨V, 0, none⟩ = some (.slice (some ⟨vb, vo, none⟩) S vc) ∧ wb.drew.cell? ⟨g, o + m, none⟩ = some (.int .i64 (x : Nat)) ∧ wb.drew.cell? ⟨kb, ko + x, none⟩ = some (.string kx) ∧ wb.drew.cell? ⟨vb, vo + x, none⟩ = some (.string vx) ∧ Hid (Below wb.heap.size wb wb.drew) := ⟨q0.1, q0.2.1, q0.2.2.1, q0.2.2.2.1, q0.2.2.2.2.1, q0.2.2.2.2.2.1, hide (q0.2.2.2.2.2.2.out.trans ((drew_below wb).mono q0.2.2.2.2.2.2.out.size))⟩
    refine wp_region_held_drew (S := (fun w' => w'.cell? ⟨F, 0, none⟩ = some (.func (.func 167) #[] #[.pointer (some ⟨F, 0, none⟩), .pointer (some ⟨K, 0, none⟩), .pointer (some ⟨V, 0, none⟩)]) ∧ w'.cell? ⟨K, 0, none⟩ = some (.slice (some ⟨kb, ko, none⟩) S kc) ∧ w'.cell? ⟨V, 0, none⟩ = some (.slice (some ⟨vb, vo, none⟩) S vc) ∧ w'.cell? ⟨g, o + m, none⟩ = some (.int .i64 (x : Nat)) ∧ w'.cell? ⟨kb, ko + x, none⟩ = some (.string kx) ∧ w'.cell? ⟨vb, vo + x, none⟩ = some (.string vx) ∧ Hid (Below wb.heap.size wb w'))) (by kernel_rfl) qd (fun hHeld => ?_)
    try dsimp only at hHeld
    refine take_op (i := 0) (d := 13) (OP := Op.load 158 (Operand.tmp 1)) (T := 158) (v := ?vzz1) rfl rfl rfl rfl (by kernel_rfl) (by kernel_rfl) (by kernel_rfl) (fun _ _ _ h => h) (by rfl) ?hzz1 hHeld ?rzz1
    case hzz1 => (intro w' hSw; (try dsimp only at hSw); go_simp <;> with_reducible rfl)
    try simp only [Act.put, List.setIfInBounds_toArray, List.set_cons_zero, List.set_cons_succ]
    refine take_op (i := 1) (d := 14) (OP := Op.move (Operand.tmp 0)) (T := 156) (v := ?vzz2) rfl rfl rfl rfl (by kernel_rfl) (by kernel_rfl) (by kernel_rfl) (fun _ _ _ h => h) (by rfl) ?hzz2 hHeld ?rzz2
    case hzz2 => (intro w' hSw; (try dsimp only at hSw); go_simp <;> with_reducible rfl)
    try simp only [Act.put, List.setIfInBounds_toArray, List.set_cons_zero, List.set_cons_succ]
    refine take_op (i := 2) (d := 15) (OP := Op.move (Operand.tmp 6)) (T := 3) (v := ?vzz3) rfl rfl rfl rfl (by kernel_rfl) (by kernel_rfl) (by kernel_rfl) (fun _ _ _ h => h) (by rfl) ?hzz3 hHeld ?rzz3
    case hzz3 => (intro w' hSw; (try dsimp only at hSw); go_simp <;> with_reducible rfl)
    try simp only [Act.put, List.setIfInBounds_toArray, List.set_cons_zero, List.set_cons_succ]
    refine take_op (i := 3) (d := 16) (OP := Op.slice 156 (Operand.tmp 14) none (some (Operand.tmp 15)) none) (T := 156) (v := ?vzz4) rfl rfl rfl rfl (by kernel_rfl) (by kernel_rfl) (by kernel_rfl) (fun _ _ _ h => h) (by rfl) ?hzz4 hHeld ?rzz4
    case hzz4 => (intro w' hSw; (try dsimp only at hSw); go_simp <;> with_reducible rfl)
    try simp only [Act.put, List.setIfInBounds_toArray, List.set_cons_zero, List.set_cons_succ]
    refine take_op (i := 5) (d := 18) (OP := Op.load 63 (Operand.tmp 2)) (T := 63) (v := ?vzz5) rfl rfl rfl rfl (by kernel_rfl) (by kernel_rfl) (by kernel_rfl) (fun _ _ _ h => h) (by rfl) ?hzz5 hHeld ?rzz5
    case hzz5 => (intro w' hSw; (try dsimp only at hSw); go_simp <;> with_reducible rfl)
    try simp only [Act.put, List.setIfInBounds_toArray, List.set_cons_zero, List.set_cons_succ]
    refine take_op (i := 6) (d := 19) (OP := Op.move (Operand.tmp 0)) (T := 156) (v := ?vzz6) rfl rfl rfl rfl (by kernel_rfl) (by kernel_rfl) (by kernel_rfl) (fun _ _ _ h => h) (by rfl) ?hzz6 hHeld ?rzz6
    case hzz6 => (intro w' hSw; (try dsimp only at hSw); go_simp <;> with_reducible rfl)
    try simp only [Act.put, List.setIfInBounds_toArray, List.set_cons_zero, List.set_cons_succ]
    refine take_op (i := 7) (d := 20) (OP := Op.move (Operand.tmp 6)) (T := 3) (v := ?vzz7) rfl rfl rfl rfl (by kernel_rfl) (by kernel_rfl) (by kernel_rfl) (fun _ _ _ h => h) (by rfl) ?hzz7 hHeld ?rzz7
    case hzz7 => (intro w' hSw; (try dsimp only at hSw); go_simp <;> with_reducible rfl)
    try simp only [Act.put, List.setIfInBounds_toArray, List.set_cons_zero, List.set_cons_succ]
    refine take_op (i := 8) (d := 21) (OP := Op.indexAddr 156 (Operand.tmp 19) (Operand.tmp 20)) (T := 0) (v := ?vzz8) rfl rfl rfl rfl (by kernel_rfl) (by kernel_rfl) (by kernel_rfl) (fun _ _ _ h => h) (by rfl) ?hzz8 hHeld ?rzz8
    case hzz8 => (intro w' hSw; (try dsimp only at hSw); go_simp <;> with_reducible rfl)
    try simp only [Act.put, List.setIfInBounds_toArray, List.set_cons_zero, List.set_cons_succ]
    refine take_op (i := 9) (d := 22) (OP := Op.load 3 (Operand.tmp 21)) (T := 3) (v := ?vzz9) rfl rfl rfl rfl (by kernel_rfl) (by kernel_rfl) (by kernel_rfl) (fun _ _ _ h => h) (by rfl) ?hzz9 hHeld ?rzz9
    case hzz9 => (intro w' hSw; (try dsimp only at hSw); go_simp <;> with_reducible rfl)
    try simp only [Act.put, List.setIfInBounds_toArray, List.set_cons_zero, List.set_cons_succ]
    refine take_op (i := 10) (d := 23) (OP := Op.indexAddr 63 (Operand.tmp 18) (Operand.tmp 22)) (T := 0) (v := ?vzz10) rfl rfl rfl rfl (by kernel_rfl) (by kernel_rfl) (by kernel_rfl) (fun _ _ _ h => h) (by rfl) ?hzz10 hHeld ?rzz10
    case hzz10 => (intro w' hSw; (try dsimp only at hSw); go_simp <;> with_reducible rfl)
    try simp only [Act.put, List.setIfInBounds_toArray, List.set_cons_zero, List.set_cons_succ]
    refine take_op (i := 11) (d := 24) (OP := Op.load 9 (Operand.tmp 23)) (T := 9) (v := ?vzz11) rfl rfl rfl rfl (by kernel_rfl) (by kernel_rfl) (by kernel_rfl) (fun _ _ _ h => h) (by rfl) ?hzz11 hHeld ?rzz11
    case hzz11 => (intro w' hSw; (try dsimp only at hSw); go_simp <;> with_reducible rfl)
    try simp only [Act.put, List.setIfInBounds_toArray, List.set_cons_zero, List.set_cons_succ]
    refine take_op (i := 12) (d := 25) (OP := Op.load 63 (Operand.tmp 3)) (T := 63) (v := ?vzz12) rfl rfl rfl rfl (by kernel_rfl) (by kernel_rfl) (by kernel_rfl) (fun _ _ _ h => h) (by rfl) ?hzz12 hHeld ?rzz12
    case hzz12 => (intro w' hSw; (try dsimp only at hSw); go_simp <;> with_reducible rfl)
    try simp only [Act.put, List.setIfInBounds_toArray, List.set_cons_zero, List.set_cons_succ]
    refine take_op (i := 13) (d := 26) (OP := Op.move (Operand.tmp 0)) (T := 156) (v := ?vzz13) rfl rfl rfl rfl (by kernel_rfl) (by kernel_rfl) (by kernel_rfl) (fun _ _ _ h => h) (by rfl) ?hzz13 hHeld ?rzz13
    case hzz13 => (intro w' hSw; (try dsimp only at hSw); go_simp <;> with_reducible rfl)
    try simp only [Act.put, List.setIfInBounds_toArray, List.set_cons_zero, List.set_cons_succ]
    refine take_op (i := 14) (d := 27) (OP := Op.move (Operand.tmp 6)) (T := 3) (v := ?vzz14) rfl rfl rfl rfl (by kernel_rfl) (by kernel_rfl) (by kernel_rfl) (fun _ _ _ h => h) (by rfl) ?hzz14 hHeld ?rzz14
    case hzz14 => (intro w' hSw; (try dsimp only at hSw); go_simp <;> with_reducible rfl)
    try simp only [Act.put, List.setIfInBounds_toArray, List.set_cons_zero, List.set_cons_succ]
    refine take_op (i := 15) (d := 28) (OP := Op.indexAddr 156 (Operand.tmp 26) (Operand.tmp 27)) (T := 0) (v := ?vzz15) rfl rfl rfl rfl (by kernel_rfl) (by kernel_rfl) (by kernel_rfl) (fun _ _ _ h => h) (by rfl) ?hzz15 hHeld ?rzz15
    case hzz15 => (intro w' hSw; (try dsimp only at hSw); go_simp <;> with_reducible rfl)
    try simp only [Act.put, List.setIfInBounds_toArray, List.set_cons_zero, List.set_cons_succ]
    refine take_op (i := 16) (d := 29) (OP := Op.load 3 (Operand.tmp 28)) (T := 3) (v := ?vzz16) rfl rfl rfl rfl (by kernel_rfl) (by kernel_rfl) (by kernel_rfl) (fun _ _ _ h => h) (by rfl) ?hzz16 hHeld ?rzz16
    case hzz16 => (intro w' hSw; (try dsimp only at hSw); go_simp <;> with_reducible rfl)
    try simp only [Act.put, List.setIfInBounds_toArray, List.set_cons_zero, List.set_cons_succ]
    refine take_op (i := 17) (d := 30) (OP := Op.indexAddr 63 (Operand.tmp 25) (Operand.tmp 29)) (T := 0) (v := ?vzz17) rfl rfl rfl rfl (by kernel_rfl) (by kernel_rfl) (by kernel_rfl) (fun _ _ _ h => h) (by rfl) ?hzz17 hHeld ?rzz17
    case hzz17 => (intro w' hSw; (try dsimp only at hSw); go_simp <;> with_reducible rfl)
    try simp only [Act.put, List.setIfInBounds_toArray, List.set_cons_zero, List.set_cons_succ]
    refine take_op (i := 18) (d := 31) (OP := Op.load 9 (Operand.tmp 30)) (T := 9) (v := ?vzz18) rfl rfl rfl rfl (by kernel_rfl) (by kernel_rfl) (by kernel_rfl) (fun _ _ _ h => h) (by rfl) ?hzz18 hHeld ?rzz18
    case hzz18 => (intro w' hSw; (try dsimp only at hSw); go_simp <;> with_reducible rfl)
    try simp only [Act.put, List.setIfInBounds_toArray, List.set_cons_zero, List.set_cons_succ]
    refine take_op (i := 19) (d := 32) (OP := Op.load 158 (Operand.tmp 1)) (T := 158) (v := ?vzz19) rfl rfl rfl rfl (by kernel_rfl) (by kernel_rfl) (by kernel_rfl) (fun _ _ _ h => h) (by rfl) ?hzz19 hHeld ?rzz19
    case hzz19 => (intro w' hSw; (try dsimp only at hSw); go_simp <;> with_reducible rfl)
    try simp only [Act.put, List.setIfInBounds_toArray, List.set_cons_zero, List.set_cons_succ]
    refine take_op (i := 20) (d := 33) (OP := Op.move (Operand.tmp 0)) (T := 156) (v := ?vzz20) rfl rfl rfl rfl (by kernel_rfl) (by kernel_rfl) (by kernel_rfl) (fun _ _ _ h => h) (by rfl) ?hzz20 hHeld ?rzz20
    case hzz20 => (intro w' hSw; (try dsimp only at hSw); go_simp <;> with_reducible rfl)
    try simp only [Act.put, List.setIfInBounds_toArray, List.set_cons_zero, List.set_cons_succ]
    refine take_op (i := 21) (d := 34) (OP := Op.move (Operand.tmp 6)) (T := 3) (v := ?vzz21) rfl rfl rfl rfl (by kernel_rfl) (by kernel_rfl) (by kernel_rfl) (fun _ _ _ h => h) (by rfl) ?hzz21 hHeld ?rzz21
    case hzz21 => (intro w' hSw; (try dsimp only at hSw); go_simp <;> with_reducible rfl)
    try simp only [Act.put, List.setIfInBounds_toArray, List.set_cons_zero, List.set_cons_succ]
    refine take_op (i := 22) (d := 35) (OP := Op.binOp BinOp.add 3 (Operand.tmp 34) (Operand.const (Value.int IntKind.i64 1)) 3) (T := 3) (v := ?vzz22) rfl rfl rfl rfl (by kernel_rfl) (by kernel_rfl) (by kernel_rfl) (fun _ _ _ h => h) (by rfl) ?hzz22 hHeld ?rzz22
    case hzz22 => (intro w' hSw; (try dsimp only at hSw); go_simp <;> with_reducible rfl)
    try simp only [Act.put, List.setIfInBounds_toArray, List.set_cons_zero, List.set_cons_succ]
    refine take_op (i := 23) (d := 36) (OP := Op.slice 156 (Operand.tmp 33) (some (Operand.tmp 35)) none none) (T := 156) (v := ?vzz23) rfl rfl rfl rfl (by kernel_rfl) (by kernel_rfl) (by kernel_rfl) (fun _ _ _ h => h) (by rfl) ?hzz23 hHeld ?rzz23
    case hzz23 => (intro w' hSw; (try dsimp only at hSw); go_simp <;> with_reducible rfl)
    try simp only [Act.put, List.setIfInBounds_toArray, List.set_cons_zero, List.set_cons_succ]
    refine call_op (i := 4) (d := 17) (OP := Op.call { callee := Callee.value (Operand.tmp 13), args := #[Operand.tmp 16], argTypes := #[156] }) (T := 25) (f := 167) (args := #[.slice (some ⟨g, o, none⟩) m cap, .pointer (some ⟨F, 0, none⟩), .pointer (some ⟨K, 0, none⟩), .pointer (some ⟨V, 0, none⟩)]) rfl rfl rfl rfl (by kernel_rfl) (by rfl) (by go_simp) ?_
    refine (HL1.out _ qd.2.2.2.2.2.2.out).mono ?_
    rintro e w1 ⟨t1, ⟨rfl, i1, b1⟩, l1, h1, B1, O1⟩
    have qw1 : w1.cell? ⟨F, 0, none⟩ = some (.func (.func 167) #[] #[.pointer (some ⟨F, 0, none⟩), .pointer (some ⟨K, 0, none⟩), .pointer (some ⟨V, 0, none⟩)]) ∧ w1.cell? ⟨K, 0, none⟩ = some (.slice (some ⟨kb, ko, none⟩) S kc) ∧ w1.cell? ⟨V, 0, none⟩ = some (.slice (some ⟨vb, vo, none⟩) S vc) ∧ w1.cell? ⟨g, o + m, none⟩ = some (.int .i64 (x : Nat)) ∧ w1.cell? ⟨kb, ko + x, none⟩ = some (.string kx) ∧ w1.cell? ⟨vb, vo + x, none⟩ = some (.string vx) ∧ Hid (Below wb.heap.size wb w1) := ⟨cell_stays qd.1 b1, cell_stays qd.2.1 b1, cell_stays qd.2.2.1 b1, cell_stays qd.2.2.2.1 b1, cell_stays qd.2.2.2.2.1 b1, cell_stays qd.2.2.2.2.2.1 b1, hide (qd.2.2.2.2.2.2.out.trans (b1.mono qd.2.2.2.2.2.2.out.size))⟩
    refine ⟨_, rfl, qw1, ?_⟩
    replace hHeld := qw1
    try simp only [Act.put, List.setIfInBounds_toArray, List.set_cons_zero, List.set_cons_succ]
    refine call_op (i := 24) (d := 37) (OP := Op.call { callee := Callee.value (Operand.tmp 32), args := #[Operand.tmp 36], argTypes := #[156] }) (T := 25) (f := 167) (args := #[.slice (some ⟨g, O, none⟩) (n - (m + 1)) (cap - (m + 1)), .pointer (some ⟨F, 0, none⟩), .pointer (some ⟨K, 0, none⟩), .pointer (some ⟨V, 0, none⟩)]) rfl rfl rfl rfl (by kernel_rfl) (by rfl) (by go_simp) ?_
    refine (HL2.out _ (qw1.2.2.2.2.2.2).out).mono ?_
    rintro e w2 ⟨t2, ⟨rfl, i2, b2⟩, l2, h2, B2, O2⟩
    have qw2 : w2.cell? ⟨F, 0, none⟩ = some (.func (.func 167) #[] #[.pointer (some ⟨F, 0, none⟩), .pointer (some ⟨K, 0, none⟩), .pointer (some ⟨V, 0, none⟩)]) ∧ w2.cell? ⟨K, 0, none⟩ = some (.slice (some ⟨kb, ko, none⟩) S kc) ∧ w2.cell? ⟨V, 0, none⟩ = some (.slice (some ⟨vb, vo, none⟩) S vc) ∧ w2.cell? ⟨g, o + m, none⟩ = some (.int .i64 (x : Nat)) ∧ w2.cell? ⟨kb, ko + x, none⟩ = some (.string kx) ∧ w2.cell? ⟨vb, vo + x, none⟩ = some (.string vx) ∧ Hid (Below wb.heap.size wb w2) := ⟨cell_stays qw1.1 b2, cell_stays qw1.2.1 b2, cell_stays qw1.2.2.1 b2, cell_stays qw1.2.2.2.1 b2, cell_stays qw1.2.2.2.2.1 b2, cell_stays qw1.2.2.2.2.2.1 b2, hide (qw1.2.2.2.2.2.2.out.trans (b2.mono qw1.2.2.2.2.2.2.out.size))⟩
    refine ⟨_, rfl, qw2, ?_⟩
    replace hHeld := qw2
    try simp only [Act.put, List.setIfInBounds_toArray, List.set_cons_zero, List.set_cons_succ]
    have HT := hide (And.intro l1 (And.intro h1 (And.intro B1 (And.intro l2 (And.intro h2 (And.intro B2 (T.over_node (p := w2.heap.size) (k := kx) (v := vx) (Nat.le_trans qw1.2.2.2.2.2.2.out.size b2.size) (O1.mono qd.2.2.2.2.2.2.out.size) (O2.mono qw1.2.2.2.2.2.2.out.size))))))))
    clear O1 O2
    have hns : t1.n + t2.n ≤ 1000000 := by rw [← T.n_eq, ← T.n_eq, l1, l2, List.length_map, List.length_map]; have := HN.out; rw [List.length_take, List.length_drop]; omega
    refine call_op (i := 25) (d := 38) (OP := Op.call { callee := Callee.value (Operand.func 168), args := #[Operand.tmp 17, Operand.tmp 24, Operand.tmp 31, Operand.tmp 37], argTypes := #[25, 9, 9, 25] }) (T := 25) (f := 168) (args := #[t1.ptr, .string kx, .string vx, t2.ptr]) rfl rfl rfl rfl (by kernel_rfl) (by rfl) (by go_simp) ?_
    refine (made_any t1 t2 kx vx w2 (In.below b2 i1) i2 hns).mono ?_
    rintro e w3 ⟨rfl, i3, b3⟩
    have qw3 : w3.cell? ⟨F, 0, none⟩ = some (.func (.func 167) #[] #[.pointer (some ⟨F, 0, none⟩), .pointer (some ⟨K, 0, none⟩), .pointer (some ⟨V, 0, none⟩)]) ∧ w3.cell? ⟨K, 0, none⟩ = some (.slice (some ⟨kb, ko, none⟩) S kc) ∧ w3.cell? ⟨V, 0, none⟩ = some (.slice (some ⟨vb, vo, none⟩) S vc) ∧ w3.cell? ⟨g, o + m, none⟩ = some (.int .i64 (x : Nat)) ∧ w3.cell? ⟨kb, ko + x, none⟩ = some (.string kx) ∧ w3.cell? ⟨vb, vo + x, none⟩ = some (.string vx) ∧ Hid (Below wb.heap.size wb w3) := ⟨cell_stays qw2.1 b3, cell_stays qw2.2.1 b3, cell_stays qw2.2.2.1 b3, cell_stays qw2.2.2.2.1 b3, cell_stays qw2.2.2.2.2.1 b3, cell_stays qw2.2.2.2.2.2.1 b3, hide (qw2.2.2.2.2.2.2.out.trans (b3.mono qw2.2.2.2.2.2.2.out.size))⟩
    refine ⟨_, rfl, qw3, ?_⟩
    replace hHeld := qw3
    try simp only [Act.put, List.setIfInBounds_toArray, List.set_cons_zero, List.set_cons_succ]
    refine take_op (i := 26) (d := 5) (OP := Op.assign (Operand.tmp 38)) (T := 25) (v := ?vzz24) rfl rfl rfl rfl (by kernel_rfl) (by kernel_rfl) (by kernel_rfl) (fun _ _ _ h => h) (by rfl) ?hzz24 hHeld ?rzz24
    case hzz24 => (intro w' hSw; (try dsimp only at hSw); go_simp <;> with_reducible rfl)
    try simp only [Act.put, List.setIfInBounds_toArray, List.set_cons_zero, List.set_cons_succ]
    refine wpAnyH_done (by kernel_rfl) ?_ _
    go_wp2
    go_ret
    obtain ⟨l1, h1, B1, l2, h2, B2, O3⟩ := HT.out
    obtain ⟨hpn, hn, hmn, hm, h0, hx⟩ := HN.out
    obtain ⟨e1, e2, e3⟩ := halves h0 hm
    refine ⟨_, ⟨rfl, i3, qw3.2.2.2.2.2.2.out⟩, ?_, ?_, ?_, O3⟩
    · rw [T.list, l1, l2, ← HE.out, ← List.map_cons, ← List.map_append]
      congr 1
      have hml : m < p.length := by omega
      have e4 : x = p[m] := by rw [List.getElem?_eq_getElem hml] at hx; exact (Option.some.inj hx).symm
      rw [e4, List.getElem_cons_drop, List.take_append_drop]
    · rw [T.h, h1, h2, e1]
    · exact ⟨by rw [h1, h2]; exact e2, by rw [h1, h2]; exact e3, B1, B2⟩
end Go.Proofs.YtkkpdgfllnbigaaGreat.Pm
