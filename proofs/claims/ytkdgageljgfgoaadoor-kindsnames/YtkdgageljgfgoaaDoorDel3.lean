/-
  kinds: changed's closure 72; slices.IndexFunc 65 over it.
  slices.DeleteFunc 47 over changed's closure.
  slices.DeleteFunc 47: the walk.
-/
import Derived.Test.YtkdgageljgfgoaaDoorEmpty
namespace Go.Proofs.YtkdgageljgfgoaaDoor
open Go.RowKit Go.Shelf Go.Sort
set_option linter.unusedSimpArgs false
attribute [local go_sem] Oper.semAt_some

/-- Has an element this text? -/
def hasT (t : ByteArray) (y : El) : Bool := y.2.toList == t.toList
set_option maxHeartbeats 1000000 in
theorem pred_any (y : El) (X : Nat) (t : ByteArray) (w : World) (hX : w.cell? ⟨X, 5, none⟩ = some (.string t)) : Calls Tryd.prog 47 #[ev y, .pointer (some ⟨X, 0, none⟩)] w fun e w' => e = .returned (.bool (hasT t y)) ∧ Below w.heap.size w w' := by
  obtain ⟨⟨g, r, l, n, i⟩, s⟩ := y
  have b1 : Below w.heap.size w (w.alloc (.cells #[.int .i64 g, .int .i64 r, .string l, .int .i64 n, .int .i64 i, .string s] 58)) := (Below.refl _ w).alloc (Nat.le_refl _) _
  have hX' := cell_stays hX b1
  have HB := hide b1
  unfold hasT
  dsimp only
  clear b1 hX
  go_enter Tryd.func47, Tryd.ntmps47
  go_wp2
  go_ret
  exact ⟨rfl, HB.out⟩

/-- The first place of an element with this text; L.length: none. -/
def firstT (t : ByteArray) (L : List El) : Nat := L.findIdx (hasT t)

set_option maxHeartbeats 2000000 in
set_option maxRecDepth 100000 in
theorem index_any {w : World} {g cap X : Nat} {L : List El} (t : ByteArray) (h : Re w (some ⟨g, 0, none⟩) L) (hl : L.length ≤ 1000000) (hX : w.cell? ⟨X, 5, none⟩ = some (.string t)) :
    Calls Tryd.prog 62 #[.slice (some ⟨g, 0, none⟩) L.length cap, .func (.func 47) #[] #[.pointer (some ⟨X, 0, none⟩)]] w fun e w' => e = .returned (.int .i64 (if firstT t L < L.length then (firstT t L : Int) else -1)) ∧ Below w.heap.size w w' := by
  obtain ⟨N, hN⟩ : ∃ N, N = L.length := ⟨_, rfl⟩
  obtain ⟨R, hR⟩ : ∃ R : Int, R = if firstT t L < L.length then (firstT t L : Int) else -1 := ⟨_, rfl⟩
  rw [← hR, ← hN]
  rw [← hN] at hl
  have H := hide (And.intro hN (And.intro hR (And.intro h hX)))
  clear hN hR h hX
  go_enter Tryd.func62, Tryd.ntmps62
  go_wp2
  go_loopw [8] (fun iv wr => ∃ k : Nat, k ≤ N ∧ iv = .int .i64 k ∧ Hid ((∀ j y, j < k → L[j]? = some y → hasT t y = false) ∧ Below w.heap.size w wr)) (fun iv _ => N - (intOf iv).toNat)
  case atStart => exact ⟨0, Nat.zero_le _, rfl, hide ⟨fun j x hj => by omega, Below.refl _ _⟩⟩
  case round =>
    obtain ⟨k, hk, rfl, hP⟩ := hrel
    by_cases hlt : k < N
    · have d1 : decide (k < N) = true := by simpa using hlt
      have d1' : (k : Int) < (N : Int) := by omega
      obtain ⟨x, hx⟩ : ∃ x, L[k]? = some x := ⟨_, List.getElem?_eq_getElem (by rw [← H.out.1]; exact hlt)⟩
      obtain ⟨b, off, hao, q0, q1, q2, q3, q4, q5⟩ := (H.out.2.2.1.below hP.out.2).cells hx
      cases hao
      have kp := pred_any x X t wr (cell_stays H.out.2.2.2 hP.out.2)
      obtain ⟨V, hV⟩ : ∃ V, V = hasT t x := ⟨_, rfl⟩
      rw [← hV] at kp
      have HX := hide (And.intro hx hV)
      obtain ⟨⟨g', r', l', n', i'⟩, s'⟩ := x
      clear hx hV
      dsimp only at q0 q1 q2 q3 q4 q5 kp
      rw [Nat.zero_add] at q0 q1 q2 q3 q4 q5
      cases V
      · go_wp2_with (go_at_call 47; refine kp.mono ?_; rintro e w2 ⟨rfl, b2⟩)
        go_roundw
        case rel =>
          refine ⟨k + 1, by omega, by go_num, hide ⟨fun j y hj hy => ?_, hP.out.2.trans (b2.mono hP.out.2.size)⟩⟩
          by_cases hjk : j = k
          · subst hjk; rw [HX.out.1] at hy; cases hy; exact HX.out.2.symm
          · exact hP.out.1 j y (by omega) hy
        case measure => simp [intOf]; omega
      · go_wp2_with (go_at_call 47; refine kp.mono ?_; rintro e w2 ⟨rfl, b2⟩)
        go_ret
        refine ⟨?_, hP.out.2.trans (b2.mono hP.out.2.size)⟩
        have hf : firstT t L = k := by
          have hkl : k < L.length := by rw [← H.out.1]; exact hlt
          refine List.findIdx_eq hkl |>.2 ⟨?_, fun j hj => ?_⟩
          · have := HX.out.1
            rw [List.getElem?_eq_getElem hkl] at this
            rw [Option.some.inj this]
            exact HX.out.2.symm
          · exact hP.out.1 j _ hj (List.getElem?_eq_getElem (by omega))
        have : R = k := by rw [H.out.2.1, hf, if_pos (by rw [← H.out.1]; exact hlt)]
        rw [this]; rfl
    · obtain rfl : k = N := by omega
      have d1 : decide (k < k) = false := by simp
      go_wp2
      go_ret
      refine ⟨?_, hP.out.2⟩
      have hf : ¬ firstT t L < L.length := by
        intro hlt'
        have h1 := List.findIdx_getElem (w := hlt') (p := hasT t)
        have h2 := hP.out.1 _ _ (by rw [H.out.1]; exact hlt') (List.getElem?_eq_getElem hlt')
        unfold firstT at h2
        rw [h1] at h2
        cases h2
      have : R = -1 := by rw [H.out.2.1, if_neg hf]
      rw [this]; rfl
end Go.Proofs.YtkdgageljgfgoaaDoor
namespace Go.Proofs.YtkdgageljgfgoaaDoor
open Go.RowKit Go.Shelf Go.Sort
set_option linter.unusedSimpArgs false
attribute [local go_sem] Oper.semAt_some

theorem setCells_row {b : Nat} {t : TypeId} : ∀ (vs : List Value) (o : Nat) (w : World) (cur : Array Value), w.heap[b]? = some (.cells cur t (0, 0)) → ∃ cur', (w.setCells b o vs).heap[b]? = some (.cells cur' t (0, 0)) ∧ cur'.size = cur.size ∧ (∀ j, j < o → cur'[j]? = cur[j]?)
  | [], o, w, cur, h => ⟨cur, h, rfl, fun _ _ => rfl⟩
  | v :: vs, o, w, cur, h => by
    obtain ⟨h1, _⟩ := set_one (i := o) v h
    obtain ⟨cur', h2, h3, h4⟩ := setCells_row vs (o + 1) _ _ h1
    refine ⟨cur', h2, by simpa using h3, fun j hj => ?_⟩
    rw [h4 j (by omega), Array.getElem?_setIfInBounds_ne (by omega)]
theorem setCells_only (b : Nat) : ∀ (vs : List Value) (o : Nat) (w : World), Only (fun j => j = b) w (w.setCells b o vs) := fun vs o w => (Only.ofGrown (grown_setCells b vs o w)).mono (fun j _ e => by simpa using e.symm)

theorem clearE (w : World) (ty : TypeId) (b o n c : Nat) (hc : ∀ j, j < n * 6 → (w.cell? ⟨b, o + j, none⟩).isSome = true) (hf : ∀ j, j < n * 6 → w.frozen? ⟨b, o + j, none⟩ = false) :
    ∃ vs, (Builtin.clear_ #[28] ty #[.slice (some ⟨b, o, none⟩) n c]).run Tryd.prog w = .ok (.tuple #[]) (w.setCells b o vs) := by
  cases n with
  | zero => exact ⟨[], by simp [Builtin.clear_, run_underlying Tryd.underlying28, World.setCells]⟩
  | succ m =>
    have hz : ∀ v ∈ (Builtin.zeroCells zeroE.cells (m + 1)).toList, v.oneCell' = true := by
      intro v hv
      simp only [Builtin.zeroCells, Value.cells, Array.toList_map, List.mem_map] at hv
      obtain ⟨i, _, rfl⟩ := hv
      have h6 : i % 6 < 6 := Nat.mod_lt _ (by omega)
      show (#[Value.int .i64 0, .int .i64 0, .string ⟨#[]⟩, .int .i64 0, .int .i64 0, .string ⟨#[]⟩][i % 6]!).oneCell' = true
      generalize i % 6 = k at h6
      match k, h6 with
      | 0, _ => rfl
      | 1, _ => rfl
      | 2, _ => rfl
      | 3, _ => rfl
      | 4, _ => rfl
      | 5, _ => rfl
    refine ⟨(Builtin.zeroCells zeroE.cells (m + 1)).toList, ?_⟩
    have hlen : (Builtin.zeroCells zeroE.cells (m + 1)).toList.length = (m + 1) * 6 := by simp [Builtin.zeroCells, Value.cells]
    have hst := run_storeCells_cells (P := Tryd.prog) b o (Builtin.zeroCells zeroE.cells (m + 1)).toList 0 w (by rw [hlen]; exact hc) (by rw [hlen]; exact hf) hz
    simp only [Nat.add_zero] at hst
    have hv : ∀ w, (zeroValue 58).run Tryd.prog w = .ok zeroE w := fun w => by kernel_rfl
    simp [Builtin.clear_, run_underlying Tryd.underlying28, hv, hst]

/-- What is kept of elements. -/
def keepL (t : ByteArray) (L : List El) : List El := L.filter fun y => !hasT t y
theorem keepL_take {t : ByteArray} {L : List El} {k : Nat} {x : El} (h : L[k]? = some x) : keepL t (L.take (k + 1)) = keepL t (L.take k) ++ (if hasT t x = true then [] else [x]) := by
  unfold keepL
  rw [List.take_add_one, h, List.filter_append]
  cases hh : hasT t x <;> simp [List.filter, hh]
theorem keepL_le (t : ByteArray) (L : List El) (k : Nat) : (keepL t (L.take k)).length ≤ k := Nat.le_trans (List.length_filter_le _ _) (by rw [List.length_take]; omega)
theorem keepL_first {t : ByteArray} {L : List El} (h : firstT t L < L.length) : keepL t (L.take (firstT t L)) = L.take (firstT t L) ∧ ∃ x, L[firstT t L]? = some x ∧ hasT t x = true := by
  refine ⟨?_, _, List.getElem?_eq_getElem h, List.findIdx_getElem (w := h)⟩
  unfold keepL
  rw [List.filter_eq_self]
  intro y hy
  obtain ⟨j, hj, rfl⟩ := List.mem_iff_getElem.1 hy
  rw [List.length_take] at hj
  rw [List.getElem_take]
  have := List.not_of_lt_findIdx (p := hasT t) (xs := L) (i := j) (show j < firstT t L by omega)
  simpa using this
theorem keepL_none {t : ByteArray} {L : List El} (h : ¬ firstT t L < L.length) : keepL t L = L := by
  unfold keepL
  rw [List.filter_eq_self]
  intro y hy
  obtain ⟨j, hj, rfl⟩ := List.mem_iff_getElem.1 hy
  have := List.not_of_lt_findIdx (p := hasT t) (xs := L) (i := j) (show j < firstT t L by omega)
  simpa using this
/-- What stands in the row behind j rounds. -/
structure DI (wI : World) (g cap : Nat) (t : ByteArray) (L : List El) (j : Nat) (W : World) : Prop where
  only : Only (fun k => k = g) wI W
  row : ∃ cur, W.heap[g]? = some (.cells cur 58 (0, 0)) ∧ cur.size = cap * 6 ∧ (∀ (k : Nat) (v : Value), (flatE (keepL t (L.take j)))[k]? = some v → cur[k]? = some v) ∧ (∀ (k : Nat) (v : Value), j * 6 ≤ k → (flatE L)[k]? = some v → cur[k]? = some v)
theorem DI.re {wI W : World} {g cap j : Nat} {t : ByteArray} {L : List El} (h : DI wI g cap t L j W) {x : El} (hx : L[j]? = some x) : W.cell? ⟨g, j * 6, none⟩ = some (.int .i64 x.1.1) ∧ W.cell? ⟨g, j * 6 + 1, none⟩ = some (.int .i64 x.1.2.1) ∧ W.cell? ⟨g, j * 6 + 2, none⟩ = some (.string x.1.2.2.1) ∧ W.cell? ⟨g, j * 6 + 3, none⟩ = some (.int .i64 x.1.2.2.2.1) ∧ W.cell? ⟨g, j * 6 + 4, none⟩ = some (.int .i64 x.1.2.2.2.2) ∧ W.cell? ⟨g, j * 6 + 5, none⟩ = some (.string x.2) := by
  obtain ⟨cur, h1, _, _, h4⟩ := h.row
  have hc : ∀ i v, (encE x)[i]? = some v → W.cell? ⟨g, j * 6 + i, none⟩ = some v := fun i v hi => by
    have h6 : i < 6 := by have := (List.getElem?_eq_some_iff.1 hi).1; simpa [encE] using this
    rw [cell_of_row _ _ _ _ 58 (0, 0) h1]
    exact h4 _ _ (by omega) ((flatE_get L j i x hx h6).trans hi)
  exact ⟨hc 0 _ rfl, hc 1 _ rfl, hc 2 _ rfl, hc 3 _ rfl, hc 4 _ rfl, hc 5 _ rfl⟩
theorem DI.below {wI W W' : World} {g cap j : Nat} {t : ByteArray} {L : List El} (h : DI wI g cap t L j W) (hb : Below W.heap.size W W') : DI wI g cap t L j W' := by
  obtain ⟨cur, h1, h2, h3, h4⟩ := h.row
  exact ⟨h.only.next (below_only hb), cur, (hb.block _ (Array.getElem?_eq_some_iff.1 h1).1).trans h1, h2, h3, h4⟩
theorem DI.skip {wI W : World} {g cap j : Nat} {t : ByteArray} {L : List El} (h : DI wI g cap t L j W) {x : El} (hx : L[j]? = some x) (hT : hasT t x = true) : DI wI g cap t L (j + 1) W := by
  obtain ⟨cur, h1, h2, h3, h4⟩ := h.row
  refine ⟨h.only, cur, h1, h2, ?_, fun k v hk hv => h4 k v (by omega) hv⟩
  rw [keepL_take hx, if_pos hT, List.append_nil]; exact h3
/-- Six cells written at the place of the next element that is kept. -/
theorem DI.keep {wI W : World} {g cap j i : Nat} {t : ByteArray} {L : List El} (h : DI wI g cap t L j W) {x : El} (hx : L[j]? = some x) (hT : hasT t x = false) (hi : i = (keepL t (L.take j)).length) (hcap : L.length ≤ cap) (hw : World) (e : hw = W.setCells g (i * 6) (encE x)) : DI wI g cap t L (j + 1) hw := by
  obtain ⟨cur, h1, h2, h3, h4⟩ := h.row
  subst e
  have hij : i ≤ j := by rw [hi]; exact keepL_le t L j
  have hjl : j < L.length := (List.getElem?_eq_some_iff.1 hx).1
  have hsz : (j + 1) * 6 ≤ cur.size := by rw [h2]; exact Nat.mul_le_mul_right 6 (by omega)
  have hO : Only (fun k => k = g) W (W.setCells g (i * 6) (encE x)) := setCells_only g (encE x) (i * 6) W
  obtain ⟨cur', h1', h2', _⟩ := setCells_row (encE x) (i * 6) W cur h1
  have hcell : ∀ k, (W.setCells g (i * 6) (encE x)).cell? ⟨g, k, none⟩ = cur'[k]? := fun k => cell_of_row _ _ _ _ 58 (0, 0) h1'
  have hcell0 : ∀ k, W.cell? ⟨g, k, none⟩ = cur[k]? := fun k => cell_of_row _ _ _ _ 58 (0, 0) h1
  have hin : ∀ k v, (encE x)[k]? = some v → cur'[i * 6 + k]? = some v := fun k v hk => by
    have hk6 : k < (encE x).length := (List.getElem?_eq_some_iff.1 hk).1
    have hk6' : k < 6 := by simpa [encE] using hk6
    rw [← hcell, World.cell?_setCells_in g (encE x) (i * 6) W (fun q hq => by
      rw [hcell0, Array.getElem?_eq_getElem (by have : q < 6 := by simpa [encE] using hq
                                                omega)]; rfl) k hk6]
    rw [List.getElem?_eq_getElem hk6] at hk
    exact hk
  have hout : ∀ k, k < i * 6 ∨ i * 6 + 6 ≤ k → cur'[k]? = cur[k]? := fun k hk => by
    rw [← hcell, ← hcell0]
    exact World.cell?_setCells_out g (encE x) (i * 6) W ⟨g, k, none⟩ (fun _ _ => by simpa [encE] using hk)
  refine ⟨h.only.next hO, cur', h1', h2'.trans h2, fun k v hk => ?_, fun k v hk hv => ?_⟩
  · rw [keepL_take hx, if_neg (by rw [hT]; decide), flatE_app] at hk
    have hfl : (flatE (keepL t (L.take j))).length = i * 6 := by rw [flatE_len, hi]
    by_cases hki : k < i * 6
    · rw [List.getElem?_append_left (by omega)] at hk
      rw [hout k (.inl hki)]; exact h3 k v hk
    · rw [List.getElem?_append_right (by omega), hfl] at hk
      have : flatE [x] = encE x := by simp [flatE]
      rw [this] at hk
      have := hin (k - i * 6) v hk
      rwa [show i * 6 + (k - i * 6) = k by omega] at this
  · rw [hout k (.inr (by omega))]; exact h4 k v (by omega) hv
end Go.Proofs.YtkdgageljgfgoaaDoor
namespace Go.Proofs.YtkdgageljgfgoaaDoor
open Go.RowKit Go.Shelf Go.Sort
set_option linter.unusedSimpArgs false
attribute [local go_sem] Oper.semAt_some

theorem DI.start {wI : World} {B g cap : Nat} {t : ByteArray} {L : List El} (h : Oe wI B (.slice (some ⟨g, 0, none⟩) L.length cap) L) (hf : firstT t L < L.length) : DI wI g cap t L (firstT t L + 1) wI := by
  obtain ⟨hk, x, hx, hT⟩ := keepL_first hf
  rcases h.2 with ⟨q, _⟩ | ⟨g', cap', cur, q, hb, hg, h1, h2, h3, h4⟩
  · cases q
  · injection q with q1 q2 q3
    injection q1 with q1
    injection q1 with q1
    subst q1 q3
    have hcur : ∀ (k : Nat) (v : Value), (flatE L)[k]? = some v → cur[k]? = some v := fun k v hv => by
      rw [← h4, List.getElem?_take] at hv
      split at hv
      · simpa using hv
      · cases hv
    refine ⟨Only.refl _ _, cur, hg, h3, fun k v hv => ?_, fun k v _ hv => hcur k v hv⟩
    rw [keepL_take hx, if_pos hT, List.append_nil, hk] at hv
    refine hcur k v ?_
    have : flatE L = flatE (L.take (firstT t L)) ++ flatE (L.drop (firstT t L)) := by rw [← flatE_app, List.take_append_drop]
    rw [this, List.getElem?_append_left (List.getElem?_eq_some_iff.1 hv).1]; exact hv
theorem DI.done {wI W : World} {B g cap : Nat} {t : ByteArray} {L : List El} (h : DI wI g cap t L L.length W) (hB : B ≤ g) (hcap : L.length ≤ cap) (hm : cap ≤ maxLen) (o : Nat) (ho : (keepL t L).length * 6 ≤ o) (vs : List Value) :
    Oe (W.setCells g o vs) B (.slice (some ⟨g, 0, none⟩) (keepL t L).length cap) (keepL t L) := by
  obtain ⟨cur, h1, h2, h3, _⟩ := h.row
  rw [List.take_length] at h3
  obtain ⟨cur', h1', h2', h3'⟩ := setCells_row vs o W cur h1
  have hle : (keepL t L).length ≤ L.length := List.length_filter_le _ _
  refine ⟨by rw [flatE_len], .inr ⟨g, cap, cur', rfl, hB, h1', Nat.le_trans hle hcap, hm, h2'.trans h2, ?_⟩⟩
  apply List.ext_getElem?
  intro k
  rw [List.getElem?_take]
  by_cases hk : k < (keepL t L).length * 6
  · rw [if_pos hk, Array.getElem?_toList, h3' k (by omega)]
    obtain ⟨v, hv⟩ : ∃ v, (flatE (keepL t L))[k]? = some v := ⟨_, List.getElem?_eq_getElem (by rw [flatE_len]; exact hk)⟩
    rw [hv, h3 k v hv]
  · rw [if_neg hk, List.getElem?_eq_none (by rw [flatE_len]; omega)]

theorem keepL_lt {t : ByteArray} {L : List El} (h : firstT t L < L.length) : (keepL t L).length < L.length := by
  obtain ⟨_, x, hx, hT⟩ := keepL_first h
  have hm : x ∈ L := List.mem_of_getElem? hx
  have hle : (keepL t L).length ≤ L.length := List.length_filter_le _ _
  rcases Nat.lt_or_ge (keepL t L).length L.length with h1 | h1
  · exact h1
  · have : keepL t L = L := List.filter_eq_self.2 (by
      have := List.length_filter_eq_length_iff.1 (Nat.le_antisymm hle h1)
      exact this)
    have h2 := List.filter_eq_self.1 this x hm
    rw [hT] at h2
    cases h2
theorem sliceE_lo {g n c j : Nat} (hj : j ≤ n) (_hn : n ≤ c) (hc : j < c) (w : World) : (Instr.slice 28 (.slice (some ⟨g, 0, none⟩) n c) (some (.int .i64 j)) none none).run Tryd.prog w = .ok (.slice (some ⟨g, j * 6, none⟩) (n - j) (c - j)) w := by
  have h2 : (0 : Int) ≤ (j : Int) ∧ (j : Int) ≤ (n : Int) := by omega
  have h3 : ¬ c = j := by omega
  have : (Instr.slice 28 (.slice (some ⟨g, 0, none⟩) n c) (some (.int .i64 j)) none none).run Tryd.prog w = .ok (.slice (if c = j then some ⟨g, 0, none⟩ else (some ⟨g, 0, none⟩ : Option Addr).map (fun x => x.add (j * 6))) (n - j) (c - j)) w := by
    simp [Instr.slice, Instr.sliceBounds, Instr.sliceBound, asIntOf, run_underlying Tryd.underlying28, go_sem, hj, show j ≤ c by omega, Tryd.sizeOf58]
  rw [this, if_neg h3, Option.map_some, add_lit, Nat.zero_add]
theorem info77s : (Tryd.prog.info? 58).map (·.size) = some 6 := by kernel_rfl
/-- An element is written into a row. -/
theorem wpList_storeE {ops : Array Oper} {rest : List Oper} {op : Oper} {a : Act} {w : World} {Q : Exit → Act → World → Prop} (hgd : op.guard = none) (hdn : op.dst = none) (x y : Operand) (ho : op.op = .store 58 x y) (b o : Nat) (e : El) (hx : a.eval x = .pointer (some ⟨b, o, none⟩)) (hy : a.eval y = ev e) (ht : w.there b o 6)
    (h : ∀ w', w' = w.setCells b o (encE e) → wpList Tryd.prog ops Q rest a w') : wpList Tryd.prog ops Q (op :: rest) a w := by
  refine wpList_store_mid hgd 58 x y ho b o (encE e).toArray hx hy (by simpa [encE] using ht) (by rw [info77s]; simp [encE]) (all_oneCell_toArray (fun v hv => flatE_one [e] v (by simpa [flatE] using hv))) ?_
  rw [hdn]
  exact h _ rfl
set_option maxHeartbeats 4000000 in
set_option maxRecDepth 100000 in
theorem delete_any {w : World} {B g cap X : Nat} {L : List El} (t : ByteArray) (h : Oe w B (.slice (some ⟨g, 0, none⟩) L.length cap) L) (hl : L.length ≤ 100000) (hX : w.cell? ⟨X, 5, none⟩ = some (.string t)) (hXg : X ≠ g) (hBw : B ≤ w.heap.size) :
    Calls Tryd.prog 46 #[.slice (some ⟨g, 0, none⟩) L.length cap, .func (.func 47) #[] #[.pointer (some ⟨X, 0, none⟩)]] w fun e w' => e = .returned (.slice (some ⟨g, 0, none⟩) (keepL t L).length cap) ∧ Oe w' B (.slice (some ⟨g, 0, none⟩) (keepL t L).length cap) (keepL t L) ∧ Below B w w' := by
  have hix := index_any (cap := cap) t h.re (by omega) hX
  obtain ⟨hBg, hcapm, hcapL⟩ : B ≤ g ∧ cap ≤ maxLen ∧ L.length ≤ cap := by
    rcases h.2 with ⟨q, _⟩ | ⟨g', cap', cur, q, hb, hg, h1, h2, h3, h4⟩
    · cases q
    · cases q; exact ⟨hb, h2, h1⟩
  by_cases hf : firstT t L < L.length
  · rw [if_pos hf] at hix
    obtain ⟨N, hN⟩ : ∃ N, N = L.length := ⟨_, rfl⟩
    obtain ⟨M, hM⟩ : ∃ M, M = (keepL t L).length := ⟨_, rfl⟩
    obtain ⟨F, hF⟩ : ∃ F, F = firstT t L := ⟨_, rfl⟩
    rw [← hF, ← hN] at hix
    rw [← hM, ← hN]
    have hFN : F < N := by rw [hF, hN]; exact hf
    have hM0 : (keepL t (L.take (F + 1))).length = F := by
      obtain ⟨hk, x, hx, hT⟩ := keepL_first hf
      rw [hF, keepL_take hx, if_pos hT, List.append_nil, hk, List.length_take]; omega
    rw [← hN] at hl
    have hF1 : ((F : Int) == -1) = false := by rw [beq_eq_false_iff_ne]; omega
    have hF2 : wrap64 ((F : Int) + 1) = (F : Int) + 1 := by unfold wrap64; omega
    have HH := hide (And.intro h (And.intro hX (And.intro hN (And.intro hM (And.intro hF (And.intro hf (And.intro hcapL hM0)))))))
    clear h hX hN hM hF hf hcapL hM0
    go_enter Tryd.func46, Tryd.ntmps46
    go_wp2_with (go_at_call 62; refine hix.mono ?_; rintro e wI ⟨rfl, bI⟩)
    have hd0 : DI wI g cap t L (F + 1) wI := by rw [HH.out.2.2.2.2.1]; exact DI.start (HH.out.1.below bI) HH.out.2.2.2.2.2.1
    have HI := hide (And.intro bI hd0)
    clear hix bI hd0
    go_loopw [5, 6] (fun iv jv wr => ∃ j : Nat, j ≤ N ∧ jv = .int .i64 j ∧ iv = .int .i64 (keepL t (L.take j)).length ∧ Hid (DI wI g cap t L j wr)) (fun _ jv _ => N - (intOf jv).toNat)
    case atStart => exact ⟨F + 1, by omega, by go_num, by rw [HH.out.2.2.2.2.2.2.2], hide HI.out.2⟩
    case round =>
      obtain ⟨j, hj, rfl, rfl, hD⟩ := hrel
      by_cases hlt : j < N
      · have d1 : decide (j < N) = true := by simpa using hlt
        have d1' : (j : Int) < (N : Int) := by omega
        obtain ⟨x, hx⟩ : ∃ x, L[j]? = some x := ⟨_, List.getElem?_eq_getElem (by rw [← HH.out.2.2.1]; exact hlt)⟩
        obtain ⟨q0, q1, q2, q3, q4, q5⟩ := hD.out.re hx
        have hXr : wr.cell? ⟨X, 5, none⟩ = some (.string t) := hD.out.only.cell (cell_stays HH.out.2.1 HI.out.1) hXg
        have kp := fun (W : World) (hW : Below wr.heap.size wr W) => pred_any x X t W (cell_stays hXr hW)
        obtain ⟨i, hi⟩ : ∃ i, i = (keepL t (L.take j)).length := ⟨_, rfl⟩
        have hij : i ≤ j := by rw [hi]; exact keepL_le t L j
        rw [← hi]
        obtain ⟨V, hV⟩ : ∃ V, V = hasT t x := ⟨_, rfl⟩
        simp only [← hV] at kp
        have bnew := fun o : Obj => ((Below.refl wr.heap.size wr).alloc (Nat.le_refl _) o)
        have HX := hide (And.intro hx (And.intro hV hi))
        have HD2 := fun (W : World) (hW : Below wr.heap.size wr W) => hD.out.below hW
        have hst : ∀ (W : World), Below wr.heap.size wr W → W.there g (i * 6) 6 := fun W hW r hr => by
          obtain ⟨cur, h1, h2, _⟩ := (HD2 W hW).row
          have : i * 6 + r < cur.size := by rw [h2]; have := HH.out.2.2.2.2.2.2.1; have := HH.out.2.2.1; omega
          exact ⟨by rw [cell_of_row _ _ _ _ 58 (0, 0) h1, Array.getElem?_eq_getElem this]; rfl, frozen_of_row _ _ _ _ 58 h1⟩
        obtain ⟨⟨g', r', l', n', i'⟩, s'⟩ := x
        clear hx hV hi hXr
        dsimp only at q0 q1 q2 q3 q4 q5 kp
        have hji : (i : Int) < (N : Int) := by omega
        replace hst := hide hst
        replace HD2 := hide HD2
        cases V
        · go_wp2_with (first
            | (go_at_call 47; refine (kp _ (bnew _)).mono ?_; rintro e w2 ⟨rfl, b2⟩; have b2' := (bnew (.cells #[.int .i64 g', .int .i64 r', .string l', .int .i64 n', .int .i64 i', .string s'] 58)).trans (b2.mono (bnew (.cells #[.int .i64 g', .int .i64 r', .string l', .int .i64 n', .int .i64 i', .string s'] 58)).size); obtain ⟨c0, c1, c2, c3, c4, c5⟩ := new6 wr (.int .i64 g') (.int .i64 r') (.string l') (.int .i64 n') (.int .i64 i') (.string s') 58; replace c0 := cell_stays c0 b2; replace c1 := cell_stays c1 b2; replace c2 := cell_stays c2 b2; replace c3 := cell_stays c3 b2; replace c4 := cell_stays c4 b2; replace c5 := cell_stays c5 b2; have HB2 := hide b2'; clear b2 b2')
            | (refine wpList_storeE rfl rfl _ _ rfl g (i * 6) ((g', r', l', n', i'), s') rfl rfl (hst.out _ HB2.out) ?_; intro w3 hw3; have HW3 := hide hw3; clear hw3))
          go_roundw
          case rel => exact ⟨j + 1, by omega, by go_num, by rw [keepL_take HX.out.1, if_neg (by rw [← HX.out.2.1]; decide), List.length_append, ← HX.out.2.2]; go_num, hide ((HD2.out w2 HB2.out).keep HX.out.1 HX.out.2.1.symm HX.out.2.2 HH.out.2.2.2.2.2.2.1 w3 HW3.out)⟩
          case measure => simp [intOf]; omega
        · go_wp2_with (go_at_call 47; refine (kp _ (bnew _)).mono ?_; rintro e w2 ⟨rfl, b2⟩; have b2' := (bnew (.cells #[.int .i64 g', .int .i64 r', .string l', .int .i64 n', .int .i64 i', .string s'] 58)).trans (b2.mono (bnew (.cells #[.int .i64 g', .int .i64 r', .string l', .int .i64 n', .int .i64 i', .string s'] 58)).size); obtain ⟨c0, c1, c2, c3, c4, c5⟩ := new6 wr (.int .i64 g') (.int .i64 r') (.string l') (.int .i64 n') (.int .i64 i') (.string s') 58; replace c0 := cell_stays c0 b2; replace c1 := cell_stays c1 b2; replace c2 := cell_stays c2 b2; replace c3 := cell_stays c3 b2; replace c4 := cell_stays c4 b2; replace c5 := cell_stays c5 b2; have HB2 := hide b2'; clear b2 b2')
          go_roundw
          case rel => exact ⟨j + 1, by omega, by go_num, by rw [keepL_take HX.out.1, if_pos HX.out.2.1.symm, List.append_nil, ← HX.out.2.2], hide ((HD2.out w2 HB2.out).skip HX.out.1 HX.out.2.1.symm)⟩
          case measure => simp [intOf]; omega
      · obtain rfl : j = N := by omega
        have hM' : (keepL t (L.take j)).length = M := by rw [HH.out.2.2.1, List.take_length]; exact HH.out.2.2.2.1.symm
        rw [hM']
        have hMj : M ≤ j := by rw [← hM']; exact keepL_le t L j
        have hMl : M < j := by rw [HH.out.2.2.2.1, HH.out.2.2.1]; exact keepL_lt HH.out.2.2.2.2.2.1
        have hjc : j ≤ cap := by rw [HH.out.2.2.1]; exact HH.out.2.2.2.2.2.2.1
        obtain ⟨vs, hclr⟩ : ∃ vs, ∀ ty, (Builtin.clear_ #[28] ty #[.slice (some ⟨g, M * 6, none⟩) (j - M) (cap - M)]).run Tryd.prog wr = .ok (.tuple #[]) (wr.setCells g (M * 6) vs) := by
          obtain ⟨cur, h1, h2, _⟩ := hD.out.row
          have hin : ∀ q, q < (j - M) * 6 → M * 6 + q < cur.size := fun q hq => by rw [h2]; omega
          obtain ⟨vs, hv⟩ := clearE wr 0 g (M * 6) (j - M) (cap - M) (fun q hq => by rw [cell_of_row _ _ _ _ 58 (0, 0) h1, Array.getElem?_eq_getElem (hin q hq)]; rfl) (fun q hq => frozen_of_row _ _ _ _ 58 h1)
          exact ⟨vs, fun ty => hv⟩
        have hs1 := fun W => sliceE_lo (g := g) (n := j) (c := cap) (j := M) hMj hjc (by omega) W
        have hs2 := fun W => sliceE_hi (ao := some ⟨g, 0, none⟩) (n := j) (c := cap) (j := M) (by omega) (fun a ha => by cases ha; rfl) W
        have hfin := DI.done (B := B) (o := M * 6) (vs := vs) (show DI wI g cap t L L.length wr by rw [← HH.out.2.2.1]; exact hD.out) hBg HH.out.2.2.2.2.2.2.1 hcapm (by rw [← HH.out.2.2.2.1]; exact Nat.le_refl _)
        rw [← HH.out.2.2.2.1] at hfin
        have HF := hide hfin
        clear hfin hM' hlt
        have hi1 : (0 : Int) ≤ (M : Int) ∧ (M : Int) ≤ (j : Int) := by omega
        have hi2 : (0 : Int) ≤ (M : Int) ∧ (M : Int) ≤ (cap : Int) := by omega
        go_wp2
        go_ret
        have hO : Only (fun k => k = g) w (wr.setCells g (M * 6) vs) := ((below_only HI.out.1).next hD.out.only).next (setCells_only g vs (M * 6) wr)
        exact ⟨rfl, HF.out, hO.below hBw (fun k e => by omega)⟩
  · rw [if_neg hf] at hix
    rw [keepL_none hf]
    obtain ⟨N, hN⟩ : ∃ N, N = L.length := ⟨_, rfl⟩
    rw [← hN] at hix ⊢
    have HH := hide (And.intro h hN)
    clear h hX hN hf
    go_enter Tryd.func46, Tryd.ntmps46
    go_wp2_with (go_at_call 62; refine hix.mono ?_; rintro e wI ⟨rfl, bI⟩)
    go_ret
    exact ⟨rfl, by rw [HH.out.2]; exact HH.out.1.below bI, bI.mono hBw⟩
end Go.Proofs.YtkdgageljgfgoaaDoor
