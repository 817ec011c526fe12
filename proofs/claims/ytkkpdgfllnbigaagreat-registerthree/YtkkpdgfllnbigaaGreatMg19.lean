/-
  Of: A MAP OUT OF KEYS AND VALUES.
  stamp: keys are ordered as stamps are.
-/
import Derived.Test.YtkkpdgfllnbigaaGreatMg18
import Derived.Test.YtkkpdgfllnbigaaGreatMg10
namespace Go.Proofs.YtkkpdgfllnbigaaGreat.Pm
open Go.RowKit Go.Shelf
set_option linter.unusedSimpArgs false

/-- Keys that rise by one step rise. -/
theorem srt_step {l : List Nm} (h : ∀ i x y, l[i]? = some x → l[i + 1]? = some y → cmpB x.1 y.1 = -1) : Srt l := by
  induction l with
  | nil => exact List.Pairwise.nil
  | cons a l ih =>
    have h1 : Srt l := ih (fun i x y hx hy => h (i + 1) x y (by simpa using hx) (by simpa using hy))
    refine List.Pairwise.cons ?_ h1
    cases l with
    | nil => simp
    | cons b l =>
      have hab := h 0 a b rfl rfl
      intro c hc
      rcases List.mem_cons.1 hc with rfl | hc
      · exact hab
      · exact ord_B.trans _ _ _ hab ((List.pairwise_cons.1 h1).1 c hc)
/-- No two next to each other alike: the keys rise. -/
theorem Rises.srt {ks : List ByteArray} {vs : List ByteArray} {p : List Nat} (h : Rises ks p) (hd : ∀ i x y, p[i]? = some x → p[i + 1]? = some y → ks[x]? ≠ ks[y]?) : Srt (p.map (ent ks vs)) := by
  refine srt_step (fun i a b ha hb => ?_)
  rw [List.getElem?_map] at ha hb
  obtain ⟨x, hx, rfl⟩ := Option.map_eq_some_iff.1 ha
  obtain ⟨y, hy, rfl⟩ := Option.map_eq_some_iff.1 hb
  have hxl : x < ks.length := List.mem_range.1 (h.perm.mem_iff.1 (List.mem_of_getElem? hx))
  have hyl : y < ks.length := List.mem_range.1 (h.perm.mem_iff.1 (List.mem_of_getElem? hy))
  have ex : ks[x]? = some ks[x] := List.getElem?_eq_getElem hxl
  have ey : ks[y]? = some ks[y] := List.getElem?_eq_getElem hyl
  have h1 := h.up i (i + 1) x y _ _ (by omega) hx hy ex ey
  have h2 := hd i x y hx hy
  rw [ex, ey] at h2
  simp only [ent, ex, ey, Option.getD_some]
  have hr := ord_B.range ks[x] ks[y]
  have ha := ord_B.anti ks[y] ks[x]
  rcases hr with hr | hr | hr
  · exact hr
  · exact (h2 (by rw [ord_B.eq _ _ hr])).elim
  · omega
/-- Two alike: the keys are not each there once. -/
theorem Rises.twice {ks : List ByteArray} {p : List Nat} (h : Rises ks p) {i x y : Nat} (hx : p[i]? = some x) (hy : p[i + 1]? = some y) (he : ks[x]? = ks[y]?) : ¬ ks.Nodup := by
  intro hn
  have hxl : x < ks.length := List.mem_range.1 (h.perm.mem_iff.1 (List.mem_of_getElem? hx))
  have hyl : y < ks.length := List.mem_range.1 (h.perm.mem_iff.1 (List.mem_of_getElem? hy))
  have hxy : x = y := (List.getElem?_inj hxl hn).1 he
  have hpn : p.Nodup := h.perm.nodup_iff.2 List.nodup_range
  have hil := (List.getElem?_eq_some_iff.1 hx).1
  have := (List.getElem?_inj hil hpn).1 (by rw [hx, hy, hxy] : p[i]? = p[i + 1]?)
  omega

set_option maxHeartbeats 4000000 in
set_option maxRecDepth 100000 in
theorem of_any (ks : List ByteArray) (vs : List ByteArray) (kv vv : Value) (w : World) (hk : Cs w kv (ks.map .string)) (hv : Cs w vv (vs.map .string)) (hl : ks.length ≤ 100000) :
    Calls Tryz.prog 110 #[kv, vv] w fun e w' => Below w.heap.size w w' ∧ ((e = .returned (.tuple #[mv .nil, .int .i64 2]) ∧ (ks.length ≠ vs.length ∨ ¬ ks.Nodup)) ∨ ∃ (t : T) (p : List Nat), e = .returned (.tuple #[mv t, .int .i64 0]) ∧ ks.length = vs.length ∧ p.Perm (List.range ks.length) ∧ t.list = p.map (ent ks vs) ∧ Srt t.list ∧ t.bal ∧ In w' t ∧ t.over w.heap.size) := by
  obtain ⟨wB, hwB⟩ : ∃ wB, wB = ((w.alloc (.cells #[kv] 63)).alloc (.cells #[vv] 63)).alloc (.cells #[.pointer none] 27) := ⟨_, rfl⟩
  obtain ⟨m0, m1, m2, hbB⟩ := new3 w (.cells #[kv] 63) (.cells #[vv] 63) (.cells #[.pointer none] 27)
  rw [← hwB] at m0 m1 m2 hbB
  have hsB : wB.heap.size = w.heap.size + 3 := by rw [hwB]; simp
  have c0 : wB.cell? ⟨w.heap.size, 0, none⟩ = some kv := by rw [cell_of_row _ _ 0 _ 63 (0, 0) m0]; rfl
  have c1 : wB.cell? ⟨w.heap.size + 1, 0, none⟩ = some vv := by rw [cell_of_row _ _ 0 _ 63 (0, 0) m1]; rfl
  obtain ⟨ka, kc, rfl, hkc, hkr⟩ := hk.ex
  obtain ⟨va, vc, rfl, hvc, hvr⟩ := hv.ex
  have hris := rising_any ks _ wB (hk.below hbB) hl
  have hkB := hk.below hbB
  have hvB := hv.below hbB
  simp only [List.length_map] at *
  -- what lies in the block that goes out, behind whatever lies above
  have key : ∀ W, Below wB.heap.size wB W → ∀ y, W.cell? ⟨w.heap.size + 1 + 1, 0, none⟩ = some (.pointer none) ∧ W.frozen? ⟨w.heap.size + 1 + 1, 0, none⟩ = false ∧ (W.setCell ⟨w.heap.size + 1 + 1, 0, none⟩ y).heap[w.heap.size + 1 + 1]? = some (.cells #[y] 27 (0, 0)) ∧ Below w.heap.size w (W.setCell ⟨w.heap.size + 1 + 1, 0, none⟩ y) ∧ ∀ t, In W t → In (W.setCell ⟨w.heap.size + 1 + 1, 0, none⟩ y) t := fun W hW y => by
    have hw1 := (hW.block (w.heap.size + 1 + 1) (by omega)).trans m2
    obtain ⟨o1, o2, o3⟩ := out_box (w := w) (y := y) hw1 (by omega) (hbB.trans (hW.mono hbB.size))
    exact ⟨by rw [cell_of_row _ _ 0 _ 27 (0, 0) hw1]; rfl, frozen_of_row _ _ 0 _ 27 hw1, o1, o2, fun t ht => In.aside hw1 o3 ht⟩
  have HK := hide key
  have HE := hide (And.intro hbB (And.intro hsB (And.intro c0 (And.intro c1 (And.intro hkB (And.intro hvB m2))))))
  by_cases hkv : ks.length = vs.length
  · have hkv2 := hkv
    rw [← hkv] at c1 HE hwB ⊢
    have HKV := hide hkv2
    obtain ⟨N, hN⟩ : ∃ N, N = ks.length := ⟨_, rfl⟩
    rw [← hN] at c0 c1 hwB hris hl ⊢
    have HN := hide hN
    have HWB := hide hwB
    have c0' := c0
    clear hk hv key hkB hvB hbB m0 m1 m2 hkr hvr hkc hvc hkv hkv2 hN hsB c0' hwB
    go_enter Tryz.func110, Tryz.ntmps110
    go_wp2_with (go_at_call 166; rw [← HWB.out]; refine hris.mono ?_; rintro e w1 ⟨g, cap, p, rfl, hcap, hrp, hcp, b1⟩)
    have HP := hide (And.intro hrp (And.intro hcp b1))
    have HC := hide hcap
    clear hrp hcp b1 hris hcap c0 c1
    go_loopw [7] (fun v7 wr => ∃ j : Nat, (j ≤ N) ∧ v7 = .int .i64 ((j : Int) + 1) ∧ Hid (Below w1.heap.size w1 wr ∧ ∀ i x y, i < j → p[i]? = some x → p[i + 1]? = some y → ks[x]? ≠ ks[y]?)) (fun v7 _ => N + 1 - (intOf v7).toNat)
    case atStart => exact ⟨0, by omega, rfl, hide ⟨Below.refl _ _, by intro i x y h; omega⟩⟩
    case round =>
      obtain ⟨j, hj, rfl, HR⟩ := hrel
      have hbw : Below wB.heap.size wB wr := HP.out.2.2.trans (HR.out.1.mono HP.out.2.2.size)
      have c0 := cell_stays HE.out.2.2.1 hbw
      rw [← HN.out] at c0
      have hpl : p.length = N := by rw [HP.out.1.perm.length_eq, List.length_range]; exact HN.out.symm
      by_cases hjN : j + 1 < N
      · have z1 : (j : Int) + 1 < (N : Int) := by omega
        have z2 : (j : Int) < (N : Int) := by omega
        obtain ⟨x, hx⟩ : ∃ x, p[j]? = some x := ⟨p[j]'(by omega), List.getElem?_eq_getElem _⟩
        obtain ⟨y, hy⟩ : ∃ y, p[j + 1]? = some y := ⟨p[j + 1]'(by omega), List.getElem?_eq_getElem _⟩
        have hxl : x < N := by rw [HN.out]; exact List.mem_range.1 (HP.out.1.perm.mem_iff.1 (List.mem_of_getElem? hx))
        have hyl : y < N := by rw [HN.out]; exact List.mem_range.1 (HP.out.1.perm.mem_iff.1 (List.mem_of_getElem? hy))
        obtain ⟨kx, hkx⟩ : ∃ k, ks[x]? = some k := ⟨ks[x]'(by rw [← HN.out]; exact hxl), List.getElem?_eq_getElem _⟩
        obtain ⟨ky, hky⟩ : ∃ k, ks[y]? = some k := ⟨ks[y]'(by rw [← HN.out]; exact hyl), List.getElem?_eq_getElem _⟩
        have d0 := cell_stays (HP.out.2.1 j x hx) HR.out.1
        have d1 := cell_stays (HP.out.2.1 (j + 1) y hy) HR.out.1
        obtain ⟨kb, ko, kc', e1, _, e3, e4⟩ := (HE.out.2.2.2.2.1.below hbw).at (j := x) (u := .string kx) (by rw [List.getElem?_map, hkx]; rfl)
        have e5 := e4 y (.string ky) (by rw [List.getElem?_map, hky]; rfl)
        simp only [Value.slice.injEq] at e1
        obtain ⟨rfl, _, rfl⟩ := e1
        have z3 : (x : Int) < (N : Int) := by omega
        have z4 : (y : Int) < (N : Int) := by omega
        have HX := hide (And.intro hx (And.intro hy (And.intro hkx hky)))
        have HO := hide hbw
        have k1 := (HK.out wr hbw (.pointer none)).1
        have k2 := (HK.out wr hbw (.pointer none)).2.1
        clear hx hy hkx hky hbw e4 hpl
        by_cases hxy : kx = ky
        · subst hxy
          have hq : (kx.toList == kx.toList) = true := beq_self_eq_true _
          go_wp2
          go_quiet (fail)
          go_wp2
          obtain ⟨_, _, o1, o2, _⟩ := HK.out (wr.drewN nq) (HO.out.trans ((below_drew wr nq).mono HO.out.size)) (.pointer none)
          refine ret_row_tmp (w.heap.size + 1 + 1) [.pointer none] rfl rfl rfl Tryz.underlying27 rfl Tryz.info27 o1 rfl ?_
          exact ⟨o2, .inl ⟨rfl, .inr (HP.out.1.twice HX.out.1 HX.out.2.1 (by rw [HX.out.2.2.1, HX.out.2.2.2]))⟩⟩
        · have hq : (kx.toList == ky.toList) = false := by
            rw [beq_eq_false_iff_ne]
            intro e2
            rw [ByteArray.toList_eq, ByteArray.toList_eq] at e2
            exact hxy (ba_eq e2)
          have HQ := hide hxy
          clear hxy
          go_wp2
          go_quiet (fail)
          go_wp2
          go_roundw
          case rel =>
            refine ⟨j + 1, by omega, by go_num, hide ⟨HR.out.1.trans ((below_drew _ _).mono HR.out.1.size), fun i x' y' hi hx' hy' => ?_⟩⟩
            by_cases hij : i < j
            · exact HR.out.2 i x' y' hij hx' hy'
            · have : i = j := by omega
              subst this
              rw [HX.out.1] at hx'
              rw [HX.out.2.1] at hy'
              cases hx'
              cases hy'
              rw [HX.out.2.2.1, HX.out.2.2.2]
              intro e
              exact HQ.out (Option.some.inj e)
          case measure => simp [intOf]; omega
      · have z1 : ¬ (j : Int) + 1 < (N : Int) := by omega
        have z2 : decide ((j : Int) + 1 < (N : Int)) = false := by simpa using z1
        have hent := HEnv.mk (W := wr.alloc (.cells #[.func (.func 167) #[] #[.pointer (some ⟨wr.heap.size, 0, none⟩), .pointer (some ⟨w.heap.size, 0, none⟩), .pointer (some ⟨w.heap.size + 1, 0, none⟩)]] 158)) (F := wr.heap.size) (K := w.heap.size) (V := w.heap.size + 1) (ks := ks) (vs := vs)
        have hb3 : Below wr.heap.size wr (wr.alloc (.cells #[.func (.func 167) #[] #[.pointer (some ⟨wr.heap.size, 0, none⟩), .pointer (some ⟨w.heap.size, 0, none⟩), .pointer (some ⟨w.heap.size + 1, 0, none⟩)]] 158)) := (Below.refl _ wr).alloc (Nat.le_refl _) _
        have hf3 : (wr.alloc (.cells #[.func (.func 167) #[] #[.pointer (some ⟨wr.heap.size, 0, none⟩), .pointer (some ⟨w.heap.size, 0, none⟩), .pointer (some ⟨w.heap.size + 1, 0, none⟩)]] 158)).cell? ⟨wr.heap.size, 0, none⟩ = some (.func (.func 167) #[] #[.pointer (some ⟨wr.heap.size, 0, none⟩), .pointer (some ⟨w.heap.size, 0, none⟩), .pointer (some ⟨w.heap.size + 1, 0, none⟩)]) := cell_new wr _ 158
        obtain ⟨w3, hw3⟩ : ∃ w3, w3 = wr.alloc (.cells #[.func (.func 167) #[] #[.pointer (some ⟨wr.heap.size, 0, none⟩), .pointer (some ⟨w.heap.size, 0, none⟩), .pointer (some ⟨w.heap.size + 1, 0, none⟩)]] 158) := ⟨_, rfl⟩
        rw [← hw3] at hb3 hf3 hent
        have hb4 : Below wB.heap.size wB w3 := hbw.trans (hb3.mono hbw.size)
        have henv := hent hf3 ⟨_, cell_stays HE.out.2.2.1 hb4, HE.out.2.2.2.2.1.below hb4⟩ ⟨_, cell_stays HE.out.2.2.2.1 hb4, HE.out.2.2.2.2.2.1.below hb4⟩
        have hhalf := half_any wr.heap.size w.heap.size (w.heap.size + 1) ks vs HKV.out N p (.slice (some ⟨g, 0, none⟩) N cap) w3 hpl (by omega) (fun i hi => List.mem_range.1 (HP.out.1.perm.mem_iff.1 hi)) henv ⟨some ⟨g, 0, none⟩, cap, by simp [hpl], by simp [hpl]; exact HC.out, fun i u hi => ⟨g, 0, rfl, by
          rw [List.getElem?_map] at hi
          obtain ⟨x, hx, rfl⟩ := Option.map_eq_some_iff.1 hi
          rw [Nat.zero_add]
          exact cell_stays (cell_stays (HP.out.2.1 i x hx) HR.out.1) hb3⟩⟩
        rw [hw3] at hhalf
        have HB3 := hide (And.intro hbw (And.intro hb3 (And.intro hb4 hw3)))
        have HPL := hide hpl
        clear hent hb3 hf3 hb4 henv hw3 hbw c0
        have hstf : ∀ a f x y m W, (store a (.func f x y) m).run Tryz.prog W = stored Tryz.prog W a (.func f x y) m := fun a f x y m W => run_store Tryz.prog W a _ m rfl
        go_wp2_with (go_at_call 167; refine hhalf.mono ?_; rintro e w4 ⟨t, ⟨rfl, i4, b4⟩, hl4, hh4, hB4, hO4⟩; rw [← HB3.out.2.2.2] at hO4; have HOV := hide (hO4.mono (B := w.heap.size) (Nat.le_trans HE.out.1.size HB3.out.2.2.1.size)); clear hO4; rw [← HB3.out.2.2.2] at b4; have hb5 := HB3.out.2.2.1.trans (b4.mono HB3.out.2.2.1.size); obtain ⟨k1, k2, k3, k4, k5⟩ := HK.out w4 hb5 t.ptr; have HF := hide (And.intro k3 (And.intro k4 (And.intro (k5 t i4) (And.intro hl4 hB4)))); obtain ⟨xb, hxb⟩ := t.ptr_shape; have HX := hide hxb; rw [hxb] at HF ⊢; clear hxb k3 k4 k5 i4 hl4 hB4 hb5 b4 hh4)
        refine ret_row_tmp (w.heap.size + 1 + 1) [.pointer xb] rfl rfl rfl Tryz.underlying27 rfl Tryz.info27 HF.out.1 rfl ?_
        refine ⟨HF.out.2.1, .inr ⟨t, p, by unfold mv; rw [HX.out]; rfl, trivial, ?_, HF.out.2.2.2.1, ?_, HF.out.2.2.2.2, HF.out.2.2.1, HOV.out⟩⟩
        · have := HP.out.1.perm
          rw [← HN.out] at this
          exact this
        · rw [HF.out.2.2.2.1]
          exact HP.out.1.srt (fun i x y hx hy => HR.out.2 i x y (by have := (List.getElem?_eq_some_iff.1 hy).1; have := HPL.out; omega) hx hy)
  · have hneq : ¬ ((ks.length : Int) = (vs.length : Int)) := by omega
    have z1 : ((ks.length : Int) == (vs.length : Int)) = false := by simpa using hneq
    have z2 : ((ks.length : Int) != (vs.length : Int)) = true := by simp [z1, bne]
    have HO := hide (And.intro m2 hbB)
    have HNE := hide hkv
    generalize ks.length = N at *
    generalize vs.length = N' at *
    rw [hwB] at HO
    clear hk hv key hkB hvB hbB m0 m1 m2 hkr hvr hkc hvc hris HE HK c0 c1 hsB
    go_enter Tryz.func110, Tryz.ntmps110
    go_wp2
    refine ret_row_tmp (w.heap.size + 1 + 1) [.pointer none] rfl rfl rfl Tryz.underlying27 rfl Tryz.info27 HO.out.1 rfl ?_
    exact ⟨HO.out.2, .inl ⟨rfl, .inl HNE.out⟩⟩
end Go.Proofs.YtkkpdgfllnbigaaGreat.Pm
namespace Go.Proofs.YtkkpdgfllnbigaaGreat
open Go.RowKit Go.Shelf
set_option linter.unusedSimpArgs false

theorem branch_parts {r : Int} {l : ByteArray} (h : branchV r l = true) : 0 ≤ r ∧ r < 8 ∧ labelB l.data.toList = true := by
  unfold branchV at h
  simp only [Bool.and_eq_true, decide_eq_true_eq] at h
  exact ⟨h.1.1, h.1.2, h.2⟩
theorem name_parts {r : Int} {l : ByteArray} {n : Int} (h : nameV r l n = true) : branchV r l = true ∧ 1 ≤ n ∧ n ≤ 4611686018427387904 := by
  unfold nameV cntV at h
  simp only [Bool.and_eq_true, decide_eq_true_eq] at h
  exact h
theorem app_list (a b : ByteArray) : (a ++ b).data.toList = a.data.toList ++ b.data.toList := by simp
theorem stamp_parts {g r : Int} {l : ByteArray} {n x : Int} (h : stampV g r l n x = true) : 1 ≤ g ∧ g ≤ 4611686018427387904 ∧ nameV r l n = true ∧ 0 ≤ x ∧ x < 64 := by
  unfold stampV cntV at h
  simp only [Bool.and_eq_true, decide_eq_true_eq] at h
  exact ⟨h.1.1.1, h.1.1.2, h.1.2, h.2.1, h.2.2⟩

/-- Bytes out of numbers. -/
def U (l : List Int) : List UInt8 := (strOfNums l).data.toList
theorem U_cons (a : Int) (l : List Int) : U (a :: l) = UInt8.ofNat a.toNat :: U l := by
  unfold U strOfNums
  simp
theorem U_nil : U [] = [] := by unfold U strOfNums; simp
theorem U_one (a : Int) : U [a] = [UInt8.ofNat a.toNat] := by rw [U_cons, U_nil]
theorem u8_lt {a b : Nat} (ha : a < 256) (hb : b < 256) : (UInt8.ofNat a < UInt8.ofNat b) ↔ a < b := by
  rw [UInt8.lt_iff_toNat_lt, UInt8.toNat_ofNat', UInt8.toNat_ofNat', Nat.mod_eq_of_lt ha, Nat.mod_eq_of_lt hb]
theorem cb_cons {a b : Nat} (ha : a < 256) (hb : b < 256) (s t : List UInt8) : Lib.compareBytes (UInt8.ofNat a :: s) (UInt8.ofNat b :: t) = if a < b then -1 else if b < a then 1 else Lib.compareBytes s t := by
  rw [Lib.compareBytes]
  simp only [u8_lt ha hb, u8_lt hb ha]
theorem low_mod (n : Nat) : ∀ k j, k ≤ j → low (n % 256 ^ j) k = low n k
  | 0, _, _ => rfl
  | k + 1, j, h => by
    rw [low, low, low_mod n k j (by omega)]
    congr 2
    obtain ⟨d, rfl⟩ : ∃ d, j = (k + 1) + d := ⟨j - (k + 1), by omega⟩
    rw [Nat.pow_add, Nat.pow_succ, Nat.mul_assoc, Nat.mod_mul_right_div_self]
    rw [Nat.mod_mul_right_mod]
theorem cb_low : ∀ (k n m : Nat) (s t : List UInt8), n < 256 ^ k → m < 256 ^ k → Lib.compareBytes (U (low n k) ++ s) (U (low m k) ++ t) = if n < m then -1 else if m < n then 1 else Lib.compareBytes s t
  | 0, n, m, s, t, hn, hm => by
    simp at hn hm
    subst hn hm
    rw [low, U_nil]
    simp
  | k + 1, n, m, s, t, hn, hm => by
    have hp : 0 < 256 ^ k := Nat.pow_pos (by omega)
    have hn' : n / 256 ^ k < 256 := by rw [Nat.div_lt_iff_lt_mul hp]; rw [Nat.pow_succ] at hn; omega
    have hm' : m / 256 ^ k < 256 := by rw [Nat.div_lt_iff_lt_mul hp]; rw [Nat.pow_succ] at hm; omega
    have dn := Nat.div_add_mod n (256 ^ k)
    have dm := Nat.div_add_mod m (256 ^ k)
    have mn := Nat.mod_lt n hp
    have mm := Nat.mod_lt m hp
    rw [low, low, U_cons, U_cons, List.cons_append, List.cons_append]
    rw [show ((n / 256 ^ k % 256 : Nat) : Int).toNat = n / 256 ^ k by rw [Int.toNat_natCast, Nat.mod_eq_of_lt hn'], show ((m / 256 ^ k % 256 : Nat) : Int).toNat = m / 256 ^ k by rw [Int.toNat_natCast, Nat.mod_eq_of_lt hm'], cb_cons hn' hm']
    rw [← low_mod n k k (Nat.le_refl _), ← low_mod m k k (Nat.le_refl _), cb_low k _ _ s t mn mm]
    generalize n / 256 ^ k = a at dn hn' ⊢
    generalize m / 256 ^ k = b at dm hm' ⊢
    generalize n % 256 ^ k = c at dn mn ⊢
    generalize m % 256 ^ k = d at dm mm ⊢
    generalize 256 ^ k = q at dn dm mn mm hp
    by_cases h1 : a < b
    · have : n < m := by
        have : q * (a + 1) ≤ q * b := Nat.mul_le_mul_left _ h1
        rw [Nat.mul_add] at this
        omega
      rw [if_pos h1, if_pos this]
    · by_cases h2 : b < a
      · have h3 : m < n := by
          have : q * (b + 1) ≤ q * a := Nat.mul_le_mul_left _ h2
          rw [Nat.mul_add] at this
          omega
        rw [if_neg h1, if_pos h2, if_neg (by omega), if_pos h3]
      · have e : a = b := by omega
        subst e
        rw [if_neg h1, if_neg h2]
        by_cases h3 : c < d
        · rw [if_pos h3, if_pos (by omega)]
        · rw [if_neg h3]
          by_cases h4 : d < c
          · rw [if_pos h4, if_neg (by omega), if_pos (by omega)]
          · rw [if_neg h4, if_neg (by omega), if_neg (by omega)]
theorem cb_label : ∀ (l m s t : List UInt8), l.all labelByte = true → m.all labelByte = true → Lib.compareBytes (l ++ 0 :: s) (m ++ 0 :: t) = if Lib.compareBytes l m = 0 then Lib.compareBytes s t else Lib.compareBytes l m
  | [], [], s, t, _, _ => by simp [Lib.compareBytes]
  | [], b :: m, s, t, _, hm => by
    have hb : labelByte b = true := by simp at hm; exact hm.1
    have h0 : (0 : UInt8) < b := by
      unfold labelByte at hb
      rw [UInt8.lt_iff_toNat_lt]
      simp at hb
      show 0 < b.toNat
      omega
    simp [Lib.compareBytes, h0]
  | a :: l, [], s, t, hl, _ => by
    have ha : labelByte a = true := by simp at hl; exact hl.1
    have h0 : (0 : UInt8) < a := by
      unfold labelByte at ha
      rw [UInt8.lt_iff_toNat_lt]
      simp at ha
      show 0 < a.toNat
      omega
    have h1 : ¬ a < 0 := by
      rw [UInt8.lt_iff_toNat_lt]
      show ¬ a.toNat < 0
      omega
    simp [Lib.compareBytes, h0, h1]
  | a :: l, b :: m, s, t, hl, hm => by
    have hl' : l.all labelByte = true := by simp at hl ⊢; exact hl.2
    have hm' : m.all labelByte = true := by simp at hm ⊢; exact hm.2
    rw [List.cons_append, List.cons_append, Lib.compareBytes, Lib.compareBytes, cb_label l m s t hl' hm']
    by_cases h1 : a < b
    · simp [h1]
    · by_cases h2 : b < a
      · simp [h1, h2]
      · simp [h1, h2]
theorem keyS_list (g r : Int) (l : ByteArray) (n x : Int) : (keyS g r l n x).data.toList = U (low g.toNat 8) ++ (U [r] ++ (l.data.toList ++ 0 :: (U (low n.toNat 8) ++ U [x]))) := by
  unfold keyS U
  simp only [app_list]
  show _ ++ [0] ++ _ ++ _ = _
  simp
/-- Keys are ordered as stamps are. -/
theorem key_order {g r n x g' r' n' x' : Int} {l l' : ByteArray} (h : stampV g r l n x = true) (h' : stampV g' r' l' n' x' = true) : Lib.compareBytes (keyS g r l n x).data.toList (keyS g' r' l' n' x').data.toList = cmpS g r l n x g' r' l' n' x' := by
  obtain ⟨g0, g1, hn, x0, x1⟩ := stamp_parts h
  obtain ⟨hb, n0, n1⟩ := name_parts hn
  obtain ⟨r0, r1, hl⟩ := branch_parts hb
  obtain ⟨g0', g1', hn', x0', x1'⟩ := stamp_parts h'
  obtain ⟨hb', n0', n1'⟩ := name_parts hn'
  obtain ⟨r0', r1', hl'⟩ := branch_parts hb'
  have ha : l.data.toList.all labelByte = true := by unfold labelB at hl; simp only [Bool.and_eq_true] at hl; exact hl.2
  have ha' : l'.data.toList.all labelByte = true := by unfold labelB at hl'; simp only [Bool.and_eq_true] at hl'; exact hl'.2
  rw [keyS_list, keyS_list, cb_low 8 _ _ _ _ (by simp; omega) (by simp; omega)]
  simp only [U_one, List.cons_append, List.nil_append]
  rw [cb_cons (by omega) (by omega), cb_label _ _ _ _ ha ha', cb_low 8 _ _ _ _ (by simp; omega) (by simp; omega), cb_cons (by omega) (by omega)]
  rw [cmpS_eq]
  unfold cmpT Go.Proofs.YtkkpdgfllnbigaaGreat.lex
  simp only [Lib.compareBytes]
  have cI : ∀ a b t : Int, 0 ≤ a → 0 ≤ b → (if a.toNat < b.toNat then (-1 : Int) else if b.toNat < a.toNat then 1 else t) = if cmpI a b = 0 then t else cmpI a b := fun a b t h1 h2 => by
    rw [← pair_step]
    by_cases q1 : a < b
    · rw [if_pos q1, if_pos (by omega)]
    · rw [if_neg q1, if_neg (by omega)]
      by_cases q2 : b < a
      · rw [if_pos q2, if_pos (by omega)]
      · rw [if_neg q2, if_neg (by omega)]
  rw [cI g g' _ (by omega) (by omega), cI r r' _ (by omega) (by omega), cI n n' _ (by omega) (by omega), cI x x' _ (by omega) (by omega)]
  congr 1
  congr 1
  show (if cmpB l l' = 0 then _ else cmpB l l') = _
  congr 1
  congr 1
  by_cases q : cmpI x x' = 0
  · rw [if_pos q, q]
  · rw [if_neg q]
end Go.Proofs.YtkkpdgfllnbigaaGreat
