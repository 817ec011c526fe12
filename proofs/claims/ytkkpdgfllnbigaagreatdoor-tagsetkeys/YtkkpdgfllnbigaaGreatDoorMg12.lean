/-
  Of: A MAP OUT OF KEYS AND VALUES.
  stamp: keys are ordered as stamps are.
  register: Of (125).
  The document's SameElements 52, Same 28, SameTexts 31; the laws' at 38.
  register: the law's small functions: at (46), num (35), the document's Text (35).
  register: the chapter's rows (known 38).
-/
import Derived.Test.YtkkpdgfllnbigaaGreatDoorMg11
import Derived.Test.YtkkpdgfllnbigaaGreatDoorMg7
import Derived.Test.YtkkpdgfllnbigaaGreatDoorMg10
import Derived.Test.YtkkpdgfllnbigaaGreatDoorMg9
import Derived.Deep.DeepCutAuto
import Derived.Deep.CutBlock
namespace Go.Proofs.YtkkpdgfllnbigaaGreatDoor.Pm
open Go.RowKit Go.Shelf
set_option linter.unusedSimpArgs false

/-- Keys that rise by one step rise. -/
theorem srt_step {l : List Nm} (h : ∀ i x y, l[i]? = some x → l[i + 1]? = some y → cmpB x.1 y.1 = -1) : Srt l := by
  induction l with
  | nil => exact List.Pairwise.nil
  | cons a l ih =>
    have h1 : Srt l := ih (fun i x y hx hy => h (i + 1) x y (by simpa using hx) (by simpa using hy))
    refine List.Pairwise.cons ?_ h1
    cases l with
    | nil => simp
    | cons b l =>
      have hab := h 0 a b rfl rfl
      intro c hc
      rcases List.mem_cons.1 hc with rfl | hc
      · exact hab
      · exact ord_B.trans _ _ _ hab ((List.pairwise_cons.1 h1).1 c hc)
/-- No two next to each other alike: the keys rise. -/
theorem Rises.srt {ks : List ByteArray} {vs : List ByteArray} {p : List Nat} (h : Rises ks p) (hd : ∀ i x y, p[i]? = some x → p[i + 1]? = some y → ks[x]? ≠ ks[y]?) : Srt (p.map (ent ks vs)) := by
  refine srt_step (fun i a b ha hb => ?_)
  rw [List.getElem?_map] at ha hb
  obtain ⟨x, hx, rfl⟩ := Option.map_eq_some_iff.1 ha
  obtain ⟨y, hy, rfl⟩ := Option.map_eq_some_iff.1 hb
  have hxl : x < ks.length := List.mem_range.1 (h.perm.mem_iff.1 (List.mem_of_getElem? hx))
  have hyl : y < ks.length := List.mem_range.1 (h.perm.mem_iff.1 (List.mem_of_getElem? hy))
  have ex : ks[x]? = some ks[x] := List.getElem?_eq_getElem hxl
  have ey : ks[y]? = some ks[y] := List.getElem?_eq_getElem hyl
  have h1 := h.up i (i + 1) x y _ _ (by omega) hx hy ex ey
  have h2 := hd i x y hx hy
  rw [ex, ey] at h2
  simp only [ent, ex, ey, Option.getD_some]
  have hr := ord_B.range ks[x] ks[y]
  have ha := ord_B.anti ks[y] ks[x]
  rcases hr with hr | hr | hr
  · exact hr
  · exact (h2 (by rw [ord_B.eq _ _ hr])).elim
  · omega
/-- Two alike: the keys are not each there once. -/
theorem Rises.twice {ks : List ByteArray} {p : List Nat} (h : Rises ks p) {i x y : Nat} (hx : p[i]? = some x) (hy : p[i + 1]? = some y) (he : ks[x]? = ks[y]?) : ¬ ks.Nodup := by
  intro hn
  have hxl : x < ks.length := List.mem_range.1 (h.perm.mem_iff.1 (List.mem_of_getElem? hx))
  have hyl : y < ks.length := List.mem_range.1 (h.perm.mem_iff.1 (List.mem_of_getElem? hy))
  have hxy : x = y := (List.getElem?_inj hxl hn).1 he
  have hpn : p.Nodup := h.perm.nodup_iff.2 List.nodup_range
  have hil := (List.getElem?_eq_some_iff.1 hx).1
  have := (List.getElem?_inj hil hpn).1 (by rw [hx, hy, hxy] : p[i]? = p[i + 1]?)
  omega

set_option maxHeartbeats 4000000 in
set_option maxRecDepth 100000 in
theorem of_any (ks : List ByteArray) (vs : List ByteArray) (kv vv : Value) (w : World) (hk : Cs w kv (ks.map .string)) (hv : Cs w vv (vs.map .string)) (hl : ks.length ≤ 100000) :
    Calls Tryz.prog 29 #[kv, vv] w fun e w' => Below w.heap.size w w' ∧ ((e = .returned (.tuple #[mv .nil, .int .i64 2]) ∧ (ks.length ≠ vs.length ∨ ¬ ks.Nodup)) ∨ ∃ (t : T) (p : List Nat), e = .returned (.tuple #[mv t, .int .i64 0]) ∧ ks.length = vs.length ∧ p.Perm (List.range ks.length) ∧ t.list = p.map (ent ks vs) ∧ Srt t.list ∧ t.bal ∧ In w' t ∧ t.over w.heap.size) := by
  obtain ⟨wB, hwB⟩ : ∃ wB, wB = ((w.alloc (.cells #[kv] 50)).alloc (.cells #[vv] 50)).alloc (.cells #[.pointer none] 43) := ⟨_, rfl⟩
  obtain ⟨m0, m1, m2, hbB⟩ := new3 w (.cells #[kv] 50) (.cells #[vv] 50) (.cells #[.pointer none] 43)
  rw [← hwB] at m0 m1 m2 hbB
  have hsB : wB.heap.size = w.heap.size + 3 := by rw [hwB]; simp
  have c0 : wB.cell? ⟨w.heap.size, 0, none⟩ = some kv := by rw [cell_of_row _ _ 0 _ 50 (0, 0) m0]; rfl
  have c1 : wB.cell? ⟨w.heap.size + 1, 0, none⟩ = some vv := by rw [cell_of_row _ _ 0 _ 50 (0, 0) m1]; rfl
  obtain ⟨ka, kc, rfl, hkc, hkr⟩ := hk.ex
  obtain ⟨va, vc, rfl, hvc, hvr⟩ := hv.ex
  have hris := rising_any ks _ wB (hk.below hbB) hl
  have hkB := hk.below hbB
  have hvB := hv.below hbB
  simp only [List.length_map] at *
  -- what lies in the block that goes out, behind whatever lies above
  have key : ∀ W, Below wB.heap.size wB W → ∀ y, W.cell? ⟨w.heap.size + 1 + 1, 0, none⟩ = some (.pointer none) ∧ W.frozen? ⟨w.heap.size + 1 + 1, 0, none⟩ = false ∧ (W.setCell ⟨w.heap.size + 1 + 1, 0, none⟩ y).heap[w.heap.size + 1 + 1]? = some (.cells #[y] 43 (0, 0)) ∧ Below w.heap.size w (W.setCell ⟨w.heap.size + 1 + 1, 0, none⟩ y) ∧ ∀ t, In W t → In (W.setCell ⟨w.heap.size + 1 + 1, 0, none⟩ y) t := fun W hW y => by
    have hw1 := (hW.block (w.heap.size + 1 + 1) (by omega)).trans m2
    obtain ⟨o1, o2, o3⟩ := out_box (w := w) (y := y) hw1 (by omega) (hbB.trans (hW.mono hbB.size))
    exact ⟨by rw [cell_of_row _ _ 0 _ 43 (0, 0) hw1]; rfl, frozen_of_row _ _ 0 _ 43 hw1, o1, o2, fun t ht => In.aside hw1 o3 ht⟩
  have HK := hide key
  have HE := hide (And.intro hbB (And.intro hsB (And.intro c0 (And.intro c1 (And.intro hkB (And.intro hvB m2))))))
  by_cases hkv : ks.length = vs.length
  · have hkv2 := hkv
    rw [← hkv] at c1 HE hwB ⊢
    have HKV := hide hkv2
    obtain ⟨N, hN⟩ : ∃ N, N = ks.length := ⟨_, rfl⟩
    rw [← hN] at c0 c1 hwB hris hl ⊢
    have HN := hide hN
    have HWB := hide hwB
    have c0' := c0
    clear hk hv key hkB hvB hbB m0 m1 m2 hkr hvr hkc hvc hkv hkv2 hN hsB c0' hwB
    go_enter Tryz.func29, Tryz.ntmps29
    go_wp2_with (go_at_call 46; rw [← HWB.out]; refine hris.mono ?_; rintro e w1 ⟨g, cap, p, rfl, hcap, hrp, hcp, b1⟩)
    have HP := hide (And.intro hrp (And.intro hcp b1))
    have HC := hide hcap
    clear hrp hcp b1 hris hcap c0 c1
    go_loopw [7] (fun v7 wr => ∃ j : Nat, (j ≤ N) ∧ v7 = .int .i64 ((j : Int) + 1) ∧ Hid (Below w1.heap.size w1 wr ∧ ∀ i x y, i < j → p[i]? = some x → p[i + 1]? = some y → ks[x]? ≠ ks[y]?)) (fun v7 _ => N + 1 - (intOf v7).toNat)
    case atStart => exact ⟨0, by omega, rfl, hide ⟨Below.refl _ _, by intro i x y h; omega⟩⟩
    case round =>
      obtain ⟨j, hj, rfl, HR⟩ := hrel
      have hbw : Below wB.heap.size wB wr := HP.out.2.2.trans (HR.out.1.mono HP.out.2.2.size)
      have c0 := cell_stays HE.out.2.2.1 hbw
      rw [← HN.out] at c0
      have hpl : p.length = N := by rw [HP.out.1.perm.length_eq, List.length_range]; exact HN.out.symm
      by_cases hjN : j + 1 < N
      · have z1 : (j : Int) + 1 < (N : Int) := by omega
        have z2 : (j : Int) < (N : Int) := by omega
        obtain ⟨x, hx⟩ : ∃ x, p[j]? = some x := ⟨p[j]'(by omega), List.getElem?_eq_getElem _⟩
        obtain ⟨y, hy⟩ : ∃ y, p[j + 1]? = some y := ⟨p[j + 1]'(by omega), List.getElem?_eq_getElem _⟩
        have hxl : x < N := by rw [HN.out]; exact List.mem_range.1 (HP.out.1.perm.mem_iff.1 (List.mem_of_getElem? hx))
        have hyl : y < N := by rw [HN.out]; exact List.mem_range.1 (HP.out.1.perm.mem_iff.1 (List.mem_of_getElem? hy))
        obtain ⟨kx, hkx⟩ : ∃ k, ks[x]? = some k := ⟨ks[x]'(by rw [← HN.out]; exact hxl), List.getElem?_eq_getElem _⟩
        obtain ⟨ky, hky⟩ : ∃ k, ks[y]? = some k := ⟨ks[y]'(by rw [← HN.out]; exact hyl), List.getElem?_eq_getElem _⟩
        have d0 := cell_stays (HP.out.2.1 j x hx) HR.out.1
        have d1 := cell_stays (HP.out.2.1 (j + 1) y hy) HR.out.1
        obtain ⟨kb, ko, kc', e1, _, e3, e4⟩ := (HE.out.2.2.2.2.1.below hbw).at (j := x) (u := .string kx) (by rw [List.getElem?_map, hkx]; rfl)
        have e5 := e4 y (.string ky) (by rw [List.getElem?_map, hky]; rfl)
        simp only [Value.slice.injEq] at e1
        obtain ⟨rfl, _, rfl⟩ := e1
        have z3 : (x : Int) < (N : Int) := by omega
        have z4 : (y : Int) < (N : Int) := by omega
        have HX := hide (And.intro hx (And.intro hy (And.intro hkx hky)))
        have HO := hide hbw
        have k1 := (HK.out wr hbw (.pointer none)).1
        have k2 := (HK.out wr hbw (.pointer none)).2.1
        clear hx hy hkx hky hbw e4 hpl
        by_cases hxy : kx = ky
        · subst hxy
          have hq : (kx.toList == kx.toList) = true := beq_self_eq_true _
          go_wp2
          go_quiet (fail)
          go_wp2
          obtain ⟨_, _, o1, o2, _⟩ := HK.out (wr.drewN nq) (HO.out.trans ((below_drew wr nq).mono HO.out.size)) (.pointer none)
          refine ret_row_tmp (w.heap.size + 1 + 1) [.pointer none] rfl rfl rfl Tryz.underlying43 rfl Tryz.info43 o1 rfl ?_
          exact ⟨o2, .inl ⟨rfl, .inr (HP.out.1.twice HX.out.1 HX.out.2.1 (by rw [HX.out.2.2.1, HX.out.2.2.2]))⟩⟩
        · have hq : (kx.toList == ky.toList) = false := by
            rw [beq_eq_false_iff_ne]
            intro e2
            rw [ByteArray.toList_eq, ByteArray.toList_eq] at e2
            exact hxy (ba_eq e2)
          have HQ := hide hxy
          clear hxy
          go_wp2
          go_quiet (fail)
          go_wp2
          go_roundw
          case rel =>
            refine ⟨j + 1, by omega, by go_num, hide ⟨HR.out.1.trans ((below_drew _ _).mono HR.out.1.size), fun i x' y' hi hx' hy' => ?_⟩⟩
            by_cases hij : i < j
            · exact HR.out.2 i x' y' hij hx' hy'
            · have : i = j := by omega
              subst this
              rw [HX.out.1] at hx'
              rw [HX.out.2.1] at hy'
              cases hx'
              cases hy'
              rw [HX.out.2.2.1, HX.out.2.2.2]
              intro e
              exact HQ.out (Option.some.inj e)
          case measure => simp [intOf]; omega
      · have z1 : ¬ (j : Int) + 1 < (N : Int) := by omega
        have z2 : decide ((j : Int) + 1 < (N : Int)) = false := by simpa using z1
        have hent := HEnv.mk (W := wr.alloc (.cells #[.func (.func 47) #[] #[.pointer (some ⟨wr.heap.size, 0, none⟩), .pointer (some ⟨w.heap.size, 0, none⟩), .pointer (some ⟨w.heap.size + 1, 0, none⟩)]] 95)) (F := wr.heap.size) (K := w.heap.size) (V := w.heap.size + 1) (ks := ks) (vs := vs)
        have hb3 : Below wr.heap.size wr (wr.alloc (.cells #[.func (.func 47) #[] #[.pointer (some ⟨wr.heap.size, 0, none⟩), .pointer (some ⟨w.heap.size, 0, none⟩), .pointer (some ⟨w.heap.size + 1, 0, none⟩)]] 95)) := (Below.refl _ wr).alloc (Nat.le_refl _) _
        have hf3 : (wr.alloc (.cells #[.func (.func 47) #[] #[.pointer (some ⟨wr.heap.size, 0, none⟩), .pointer (some ⟨w.heap.size, 0, none⟩), .pointer (some ⟨w.heap.size + 1, 0, none⟩)]] 95)).cell? ⟨wr.heap.size, 0, none⟩ = some (.func (.func 47) #[] #[.pointer (some ⟨wr.heap.size, 0, none⟩), .pointer (some ⟨w.heap.size, 0, none⟩), .pointer (some ⟨w.heap.size + 1, 0, none⟩)]) := cell_new wr _ 95
        obtain ⟨w3, hw3⟩ : ∃ w3, w3 = wr.alloc (.cells #[.func (.func 47) #[] #[.pointer (some ⟨wr.heap.size, 0, none⟩), .pointer (some ⟨w.heap.size, 0, none⟩), .pointer (some ⟨w.heap.size + 1, 0, none⟩)]] 95) := ⟨_, rfl⟩
        rw [← hw3] at hb3 hf3 hent
        have hb4 : Below wB.heap.size wB w3 := hbw.trans (hb3.mono hbw.size)
        have henv := hent hf3 ⟨_, cell_stays HE.out.2.2.1 hb4, HE.out.2.2.2.2.1.below hb4⟩ ⟨_, cell_stays HE.out.2.2.2.1 hb4, HE.out.2.2.2.2.2.1.below hb4⟩
        have hhalf := half_any wr.heap.size w.heap.size (w.heap.size + 1) ks vs HKV.out N p (.slice (some ⟨g, 0, none⟩) N cap) w3 hpl (by omega) (fun i hi => List.mem_range.1 (HP.out.1.perm.mem_iff.1 hi)) henv ⟨some ⟨g, 0, none⟩, cap, by simp [hpl], by simp [hpl]; exact HC.out, fun i u hi => ⟨g, 0, rfl, by
          rw [List.getElem?_map] at hi
          obtain ⟨x, hx, rfl⟩ := Option.map_eq_some_iff.1 hi
          rw [Nat.zero_add]
          exact cell_stays (cell_stays (HP.out.2.1 i x hx) HR.out.1) hb3⟩⟩
        rw [hw3] at hhalf
        have HB3 := hide (And.intro hbw (And.intro hb3 (And.intro hb4 hw3)))
        have HPL := hide hpl
        clear hent hb3 hf3 hb4 henv hw3 hbw c0
        have hstf : ∀ a f x y m W, (store a (.func f x y) m).run Tryz.prog W = stored Tryz.prog W a (.func f x y) m := fun a f x y m W => run_store Tryz.prog W a _ m rfl
        go_wp2_with (go_at_call 47; refine hhalf.mono ?_; rintro e w4 ⟨t, ⟨rfl, i4, b4⟩, hl4, hh4, hB4, hO4⟩; rw [← HB3.out.2.2.2] at hO4; have HOV := hide (hO4.mono (B := w.heap.size) (Nat.le_trans HE.out.1.size HB3.out.2.2.1.size)); clear hO4; rw [← HB3.out.2.2.2] at b4; have hb5 := HB3.out.2.2.1.trans (b4.mono HB3.out.2.2.1.size); obtain ⟨k1, k2, k3, k4, k5⟩ := HK.out w4 hb5 t.ptr; have HF := hide (And.intro k3 (And.intro k4 (And.intro (k5 t i4) (And.intro hl4 hB4)))); obtain ⟨xb, hxb⟩ := t.ptr_shape; have HX := hide hxb; rw [hxb] at HF ⊢; clear hxb k3 k4 k5 i4 hl4 hB4 hb5 b4 hh4)
        refine ret_row_tmp (w.heap.size + 1 + 1) [.pointer xb] rfl rfl rfl Tryz.underlying43 rfl Tryz.info43 HF.out.1 rfl ?_
        refine ⟨HF.out.2.1, .inr ⟨t, p, by unfold mv; rw [HX.out]; rfl, trivial, ?_, HF.out.2.2.2.1, ?_, HF.out.2.2.2.2, HF.out.2.2.1, HOV.out⟩⟩
        · have := HP.out.1.perm
          rw [← HN.out] at this
          exact this
        · rw [HF.out.2.2.2.1]
          exact HP.out.1.srt (fun i x y hx hy => HR.out.2 i x y (by have := (List.getElem?_eq_some_iff.1 hy).1; have := HPL.out; omega) hx hy)
  · have hneq : ¬ ((ks.length : Int) = (vs.length : Int)) := by omega
    have z1 : ((ks.length : Int) == (vs.length : Int)) = false := by simpa using hneq
    have z2 : ((ks.length : Int) != (vs.length : Int)) = true := by simp [z1, bne]
    have HO := hide (And.intro m2 hbB)
    have HNE := hide hkv
    generalize ks.length = N at *
    generalize vs.length = N' at *
    rw [hwB] at HO
    clear hk hv key hkB hvB hbB m0 m1 m2 hkr hvr hkc hvc hris HE HK c0 c1 hsB
    go_enter Tryz.func29, Tryz.ntmps29
    go_wp2
    refine ret_row_tmp (w.heap.size + 1 + 1) [.pointer none] rfl rfl rfl Tryz.underlying43 rfl Tryz.info43 HO.out.1 rfl ?_
    exact ⟨HO.out.2, .inl ⟨rfl, .inl HNE.out⟩⟩
end Go.Proofs.YtkkpdgfllnbigaaGreatDoor.Pm
namespace Go.Proofs.YtkkpdgfllnbigaaGreatDoor
open Go.RowKit Go.Shelf
set_option linter.unusedSimpArgs false

theorem branch_parts {r : Int} {l : ByteArray} (h : branchV r l = true) : 0 ≤ r ∧ r < 8 ∧ labelB l.data.toList = true := by
  unfold branchV at h
  simp only [Bool.and_eq_true, decide_eq_true_eq] at h
  exact ⟨h.1.1, h.1.2, h.2⟩
theorem name_parts {r : Int} {l : ByteArray} {n : Int} (h : nameV r l n = true) : branchV r l = true ∧ 1 ≤ n ∧ n ≤ 4611686018427387904 := by
  unfold nameV cntV at h
  simp only [Bool.and_eq_true, decide_eq_true_eq] at h
  exact h
theorem app_list (a b : ByteArray) : (a ++ b).data.toList = a.data.toList ++ b.data.toList := by simp
theorem stamp_parts {g r : Int} {l : ByteArray} {n x : Int} (h : stampV g r l n x = true) : 1 ≤ g ∧ g ≤ 4611686018427387904 ∧ nameV r l n = true ∧ 0 ≤ x ∧ x < 64 := by
  unfold stampV cntV at h
  simp only [Bool.and_eq_true, decide_eq_true_eq] at h
  exact ⟨h.1.1.1, h.1.1.2, h.1.2, h.2.1, h.2.2⟩

/-- Bytes out of numbers. -/
def U (l : List Int) : List UInt8 := (strOfNums l).data.toList
theorem U_cons (a : Int) (l : List Int) : U (a :: l) = UInt8.ofNat a.toNat :: U l := by
  unfold U strOfNums
  simp
theorem U_nil : U [] = [] := by unfold U strOfNums; simp
theorem U_one (a : Int) : U [a] = [UInt8.ofNat a.toNat] := by rw [U_cons, U_nil]
theorem u8_lt {a b : Nat} (ha : a < 256) (hb : b < 256) : (UInt8.ofNat a < UInt8.ofNat b) ↔ a < b := by
  rw [UInt8.lt_iff_toNat_lt, UInt8.toNat_ofNat', UInt8.toNat_ofNat', Nat.mod_eq_of_lt ha, Nat.mod_eq_of_lt hb]
theorem cb_cons {a b : Nat} (ha : a < 256) (hb : b < 256) (s t : List UInt8) : Lib.compareBytes (UInt8.ofNat a :: s) (UInt8.ofNat b :: t) = if a < b then -1 else if b < a then 1 else Lib.compareBytes s t := by
  rw [Lib.compareBytes]
  simp only [u8_lt ha hb, u8_lt hb ha]
theorem low_mod (n : Nat) : ∀ k j, k ≤ j → low (n % 256 ^ j) k = low n k
  | 0, _, _ => rfl
  | k + 1, j, h => by
    rw [low, low, low_mod n k j (by omega)]
    congr 2
    obtain ⟨d, rfl⟩ : ∃ d, j = (k + 1) + d := ⟨j - (k + 1), by omega⟩
    rw [Nat.pow_add, Nat.pow_succ, Nat.mul_assoc, Nat.mod_mul_right_div_self]
    rw [Nat.mod_mul_right_mod]
theorem cb_low : ∀ (k n m : Nat) (s t : List UInt8), n < 256 ^ k → m < 256 ^ k → Lib.compareBytes (U (low n k) ++ s) (U (low m k) ++ t) = if n < m then -1 else if m < n then 1 else Lib.compareBytes s t
  | 0, n, m, s, t, hn, hm => by
    simp at hn hm
    subst hn hm
    rw [low, U_nil]
    simp
  | k + 1, n, m, s, t, hn, hm => by
    have hp : 0 < 256 ^ k := Nat.pow_pos (by omega)
    have hn' : n / 256 ^ k < 256 := by rw [Nat.div_lt_iff_lt_mul hp]; rw [Nat.pow_succ] at hn; omega
    have hm' : m / 256 ^ k < 256 := by rw [Nat.div_lt_iff_lt_mul hp]; rw [Nat.pow_succ] at hm; omega
    have dn := Nat.div_add_mod n (256 ^ k)
    have dm := Nat.div_add_mod m (256 ^ k)
    have mn := Nat.mod_lt n hp
    have mm := Nat.mod_lt m hp
    rw [low, low, U_cons, U_cons, List.cons_append, List.cons_append]
    rw [show ((n / 256 ^ k % 256 : Nat) : Int).toNat = n / 256 ^ k by rw [Int.toNat_natCast, Nat.mod_eq_of_lt hn'], show ((m / 256 ^ k % 256 : Nat) : Int).toNat = m / 256 ^ k by rw [Int.toNat_natCast, Nat.mod_eq_of_lt hm'], cb_cons hn' hm']
    rw [← low_mod n k k (Nat.le_refl _), ← low_mod m k k (Nat.le_refl _), cb_low k _ _ s t mn mm]
    generalize n / 256 ^ k = a at dn hn' ⊢
    generalize m / 256 ^ k = b at dm hm' ⊢
    generalize n % 256 ^ k = c at dn mn ⊢
    generalize m % 256 ^ k = d at dm mm ⊢
    generalize 256 ^ k = q at dn dm mn mm hp
    by_cases h1 : a < b
    · have : n < m := by
        have : q * (a + 1) ≤ q * b := Nat.mul_le_mul_left _ h1
        rw [Nat.mul_add] at this
        omega
      rw [if_pos h1, if_pos this]
    · by_cases h2 : b < a
      · have h3 : m < n := by
          have : q * (b + 1) ≤ q * a := Nat.mul_le_mul_left _ h2
          rw [Nat.mul_add] at this
          omega
        rw [if_neg h1, if_pos h2, if_neg (by omega), if_pos h3]
      · have e : a = b := by omega
        subst e
        rw [if_neg h1, if_neg h2]
        by_cases h3 : c < d
        · rw [if_pos h3, if_pos (by omega)]
        · rw [if_neg h3]
          by_cases h4 : d < c
          · rw [if_pos h4, if_neg (by omega), if_pos (by omega)]
          · rw [if_neg h4, if_neg (by omega), if_neg (by omega)]
theorem cb_label : ∀ (l m s t : List UInt8), l.all labelByte = true → m.all labelByte = true → Lib.compareBytes (l ++ 0 :: s) (m ++ 0 :: t) = if Lib.compareBytes l m = 0 then Lib.compareBytes s t else Lib.compareBytes l m
  | [], [], s, t, _, _ => by simp [Lib.compareBytes]
  | [], b :: m, s, t, _, hm => by
    have hb : labelByte b = true := by simp at hm; exact hm.1
    have h0 : (0 : UInt8) < b := by
      unfold labelByte at hb
      rw [UInt8.lt_iff_toNat_lt]
      simp at hb
      show 0 < b.toNat
      omega
    simp [Lib.compareBytes, h0]
  | a :: l, [], s, t, hl, _ => by
    have ha : labelByte a = true := by simp at hl; exact hl.1
    have h0 : (0 : UInt8) < a := by
      unfold labelByte at ha
      rw [UInt8.lt_iff_toNat_lt]
      simp at ha
      show 0 < a.toNat
      omega
    have h1 : ¬ a < 0 := by
      rw [UInt8.lt_iff_toNat_lt]
      show ¬ a.toNat < 0
      omega
    simp [Lib.compareBytes, h0, h1]
  | a :: l, b :: m, s, t, hl, hm => by
    have hl' : l.all labelByte = true := by simp at hl ⊢; exact hl.2
    have hm' : m.all labelByte = true := by simp at hm ⊢; exact hm.2
    rw [List.cons_append, List.cons_append, Lib.compareBytes, Lib.compareBytes, cb_label l m s t hl' hm']
    by_cases h1 : a < b
    · simp [h1]
    · by_cases h2 : b < a
      · simp [h1, h2]
      · simp [h1, h2]
theorem keyS_list (g r : Int) (l : ByteArray) (n x : Int) : (keyS g r l n x).data.toList = U (low g.toNat 8) ++ (U [r] ++ (l.data.toList ++ 0 :: (U (low n.toNat 8) ++ U [x]))) := by
  unfold keyS U
  simp only [app_list]
  show _ ++ [0] ++ _ ++ _ = _
  simp
/-- Keys are ordered as stamps are. -/
theorem key_order {g r n x g' r' n' x' : Int} {l l' : ByteArray} (h : stampV g r l n x = true) (h' : stampV g' r' l' n' x' = true) : Lib.compareBytes (keyS g r l n x).data.toList (keyS g' r' l' n' x').data.toList = cmpS g r l n x g' r' l' n' x' := by
  obtain ⟨g0, g1, hn, x0, x1⟩ := stamp_parts h
  obtain ⟨hb, n0, n1⟩ := name_parts hn
  obtain ⟨r0, r1, hl⟩ := branch_parts hb
  obtain ⟨g0', g1', hn', x0', x1'⟩ := stamp_parts h'
  obtain ⟨hb', n0', n1'⟩ := name_parts hn'
  obtain ⟨r0', r1', hl'⟩ := branch_parts hb'
  have ha : l.data.toList.all labelByte = true := by unfold labelB at hl; simp only [Bool.and_eq_true] at hl; exact hl.2
  have ha' : l'.data.toList.all labelByte = true := by unfold labelB at hl'; simp only [Bool.and_eq_true] at hl'; exact hl'.2
  rw [keyS_list, keyS_list, cb_low 8 _ _ _ _ (by simp; omega) (by simp; omega)]
  simp only [U_one, List.cons_append, List.nil_append]
  rw [cb_cons (by omega) (by omega), cb_label _ _ _ _ ha ha', cb_low 8 _ _ _ _ (by simp; omega) (by simp; omega), cb_cons (by omega) (by omega)]
  rw [cmpS_eq]
  unfold cmpT Go.Proofs.YtkkpdgfllnbigaaGreatDoor.lex
  simp only [Lib.compareBytes]
  have cI : ∀ a b t : Int, 0 ≤ a → 0 ≤ b → (if a.toNat < b.toNat then (-1 : Int) else if b.toNat < a.toNat then 1 else t) = if cmpI a b = 0 then t else cmpI a b := fun a b t h1 h2 => by
    rw [← pair_step]
    by_cases q1 : a < b
    · rw [if_pos q1, if_pos (by omega)]
    · rw [if_neg q1, if_neg (by omega)]
      by_cases q2 : b < a
      · rw [if_pos q2, if_pos (by omega)]
      · rw [if_neg q2, if_neg (by omega)]
  rw [cI g g' _ (by omega) (by omega), cI r r' _ (by omega) (by omega), cI n n' _ (by omega) (by omega), cI x x' _ (by omega) (by omega)]
  congr 1
  congr 1
  show (if cmpB l l' = 0 then _ else cmpB l l') = _
  congr 1
  congr 1
  by_cases q : cmpI x x' = 0
  · rw [if_pos q, q]
  · rw [if_neg q]
end Go.Proofs.YtkkpdgfllnbigaaGreatDoor
namespace Go.Proofs.YtkkpdgfllnbigaaGreatDoor
open Go.RowKit Go.Shelf
set_option linter.unusedSimpArgs false
attribute [local go_sem] Oper.semAt_some

/-- Two operations that turn the world come up together in a region that draws its order. -/
theorem turn2_op {P : Program} {md : Region.Mode} {ops : Array Oper} {Q : Exit → Act → World → Prop} {S : World → Prop} {i j : Nat} {oi oj : Oper} {di dj : Tmp} {OPi OPj : Op} {Ti Tj : TypeId} {v u : Value} {fuel : Nat} {listed : Array Bool} {a : Act} {w wi wj : World}
    (hi : ops[i]? = some oi) (hdi : oi.dst = some di) (hoi : oi.op = OPi) (hti : oi.type = Ti) (hj : ops[j]? = some oj) (hdj : oj.dst = some dj) (hoj : oj.op = OPj) (htj : oj.type = Tj)
    (hr : Region.ready md ops listed = [i, j]) (hwi : Region.wanted oi (yielded ops a.tmps) = true) (hwj : Region.wanted oj (yielded ops a.tmps) = true)
    (hyi : (execOp a.eval { dst := none, op := OPi, type := Ti, pos := "", after := #[], guard := none }).run P w = .ok (.value v) wi)
    (hyj : (execOp a.eval { dst := none, op := OPj, type := Tj, pos := "", after := #[], guard := none }).run P w = .ok (.value u) wj)
    (hSi : S wi) (hSj : S wj)
    (h1 : wpAnyH P md ops Q S fuel (listed.setIfInBounds i true) (a.put (some di) v) wi) (h2 : wpAnyH P md ops Q S fuel (listed.setIfInBounds j true) (a.put (some dj) u) wj) : wpAnyH P md ops Q S (fuel + 1) listed a w := by
  refine wpAnyH_ready hr (by simp) (AllReadyH.cons hi (fun K hK => ?_) (AllReadyH.cons hj (fun K hK => ?_) AllReadyH.nil))
  · rw [if_pos hwi]
    unfold Oper.wp
    rw [exec_same a.eval oi hoi hti, hyi]
    show K (a.put oi.dst v) wi
    rw [hdi]
    exact hK.out _ _ hSi (fun _ => h1)
  · rw [if_pos hwj]
    unfold Oper.wp
    rw [exec_same a.eval oj hoj htj, hyj]
    show K (a.put oj.dst u) wj
    rw [hdj]
    exact hK.out _ _ hSj (fun _ => h2)
/-- One is laid behind; where the row then lies. -/
theorem push_OtW {w : World} {B b : Nat} {v : Value} {p : List ByteArray} {y : ByteArray} (hown : Ot w B v p) (hcell : w.heap[b]? = some (.cells #[.string y] 9 (0, 0))) (hp : p.length + 1 ≤ 1000000) (hB : B ≤ w.heap.size) :
    ∃ a' c' w', (Builtin.append_ #[50, 50] 50 #[v, .slice (some ⟨b, 0, none⟩) 1 1]).run Tryz.prog w = .ok (.slice a' (p.length + 1) c') w' ∧ Ot w' B (.slice a' (p.length + 1) c') (p ++ [y]) ∧ Only (fun k => v.ownBlock = some k) w w' ∧ Where w v (.slice a' (p.length + 1) c') := by
  obtain ⟨i0, hi, hz0, hz1, hz2⟩ := info_of info9t
  obtain ⟨v', w', hr, h2, h3, h4⟩ := append_where (P := Tryz.prog) w 50 50 9 i0 (.string ⟨#[]⟩) 1 16 Tryz.underlying50 hi hz0 hz1 hz2 rfl (by decide) v p.length (p.map Value.string) (hown.lift (Nat.zero_le _)) ⟨b, 0, none⟩ 1 1 [.string y] (by simp) (fun j u hj => by rw [add_lit, cell_of_row _ _ (0 + j) #[.string y] 9 (0, 0) hcell, Nat.zero_add]; simpa using hj) (fun u hu => strs_one (l := [y]) u (by simpa using hu)) (by unfold maxLen; omega) (by omega)
  have hO : Ot w' 0 v' (p ++ [y]) := by
    unfold Ot
    rw [List.map_append, List.length_append]
    exact h2
  obtain ⟨a', c', hv, _, _⟩ := row_form hO
  subst hv
  rw [List.length_append] at hO hr h4
  refine ⟨a', c', w', hr, ?_, Only.ofGrown h3, h4⟩
  rcases hO with ⟨q1, q2⟩
  refine ⟨q1, ?_⟩
  rcases q2 with q2 | ⟨g, cap, cur, e, hb, r⟩
  · exact .inl q2
  · refine .inr ⟨g, cap, cur, e, ?_, r⟩
    rcases h4 g (by rw [show (Value.slice a' (p.length + [y].length) c') = _ from e]; rfl) with h | h
    · exact (World.ownsRow.lt hown g h).1
    · omega
def okEl (x : El) : Bool := stV x.1 && txtB x.2
/-- What stands between turns. -/
structure OI (w0 : World) (B : Nat) (ks ts : List ByteArray) (kv tv : Value) (W : World) : Prop where
  low : Below B w0 W
  k : Ot W B kv ks
  t : Ot W B tv ts
  ne : ∀ j, kv.ownBlock = some j → tv.ownBlock ≠ some j
theorem OI.alloc {w0 : World} {B : Nat} {ks ts : List ByteArray} {kv tv : Value} {W : World} (h : OI w0 B ks ts kv tv W) (hB : B ≤ W.heap.size) (o : Obj) : OI w0 B ks ts kv tv (W.alloc o) := by
  have hb : Below W.heap.size W (W.alloc o) := (Below.refl _ W).alloc (Nat.le_refl _) _
  exact ⟨h.low.trans (hb.mono hB), h.k.below hb, h.t.below hb, h.ne⟩
theorem OI.below {w0 : World} {B : Nat} {ks ts : List ByteArray} {kv tv : Value} {W W' : World} (h : OI w0 B ks ts kv tv W) (hB : B ≤ W.heap.size) (hb : Below W.heap.size W W') : OI w0 B ks ts kv tv W' := ⟨h.low.trans (hb.mono hB), h.k.below hb, h.t.below hb, h.ne⟩
theorem OI.pushK {w0 : World} {B b : Nat} {ks ts : List ByteArray} {kv tv : Value} {W : World} {y : ByteArray} (h : OI w0 B ks ts kv tv W) (hB : B ≤ W.heap.size) (hp : ks.length ≤ 100000) (hc : W.heap[b]? = some (.cells #[.string y] 9 (0, 0))) :
    ∃ a' c' w', (Builtin.append_ #[50, 50] 50 #[kv, .slice (some ⟨b, 0, none⟩) 1 1]).run Tryz.prog W = .ok (.slice a' (ks.length + 1) c') w' ∧ OI w0 B (ks ++ [y]) ts (.slice a' (ks.length + 1) c') tv w' ∧ Only (fun k => kv.ownBlock = some k) W w' := by
  obtain ⟨a', c', w', hr, hO, ho, hw⟩ := push_OtW h.k hc (by omega) hB
  refine ⟨a', c', w', hr, ⟨Below.only h.low ho hB (fun j e => (World.ownsRow.lt h.k j e).1), hO, h.t.only ho (fun k hk e => h.ne k e hk), fun j hj e => ?_⟩, ho⟩
  rcases hw j hj with h1 | h1
  · exact h.ne j h1 e
  · have := (World.ownsRow.lt h.t j e).2; omega
theorem OI.pushT {w0 : World} {B b : Nat} {ks ts : List ByteArray} {kv tv : Value} {W : World} {y : ByteArray} (h : OI w0 B ks ts kv tv W) (hB : B ≤ W.heap.size) (hp : ts.length ≤ 100000) (hc : W.heap[b]? = some (.cells #[.string y] 9 (0, 0))) :
    ∃ a' c' w', (Builtin.append_ #[50, 50] 50 #[tv, .slice (some ⟨b, 0, none⟩) 1 1]).run Tryz.prog W = .ok (.slice a' (ts.length + 1) c') w' ∧ OI w0 B ks (ts ++ [y]) kv (.slice a' (ts.length + 1) c') w' ∧ Only (fun k => tv.ownBlock = some k) W w' := by
  obtain ⟨a', c', w', hr, hO, ho, hw⟩ := push_OtW h.t hc (by omega) hB
  refine ⟨a', c', w', hr, ⟨Below.only h.low ho hB (fun j e => (World.ownsRow.lt h.t j e).1), h.k.only ho (fun k hk e => h.ne k hk e), hO, fun j hj e => ?_⟩, ho⟩
  rcases hw j e with h1 | h1
  · exact h.ne j hj h1
  · have := (World.ownsRow.lt h.k j hj).2; omega
theorem OI.notK {w0 : World} {B j : Nat} {ks ts : List ByteArray} {kv tv : Value} {W : World} (h : OI w0 B ks ts kv tv W) (hj : W.heap.size ≤ j) : ¬ (kv.ownBlock = some j) := fun e => by have := (World.ownsRow.lt h.k j e).2; omega
theorem OI.notT {w0 : World} {B j : Nat} {ks ts : List ByteArray} {kv tv : Value} {W : World} (h : OI w0 B ks ts kv tv W) (hj : W.heap.size ≤ j) : ¬ (tv.ownBlock = some j) := fun e => by have := (World.ownsRow.lt h.t j e).2; omega
theorem Ot.cs {w : World} {B : Nat} {v : Value} {L : List ByteArray} (h : Ot w B v L) : Pm.Cs w v (L.map Value.string) := by
  rcases h with ⟨h1, h2⟩
  rcases h2 with ⟨e, e2⟩ | ⟨g, cap, cur, e, hb, hg, hnc, hcm, hcs, htake⟩
  · have : L = [] := List.eq_nil_of_length_eq_zero e2
    subst this
    exact ⟨none, 0, e, Nat.le_refl _, fun j u hj => by simp at hj⟩
  · refine ⟨some ⟨g, 0, none⟩, cap, by rw [e, List.length_map], by rw [List.length_map]; exact hnc, fun j u hj => ⟨g, 0, rfl, ?_⟩⟩
    rw [Nat.zero_add, cell_of_row _ _ j _ 9 (0, 0) hg]
    have hj' : j < (L.map Value.string).length := (List.getElem?_eq_some_iff.1 hj).1
    rw [← htake, List.getElem?_take] at hj
    split at hj
    · simpa using hj
    · cases hj
theorem keyT_size {s : St} (h : stV s = true) : (keyT s).size ≤ 100 := by
  have := S_bounds h
  unfold keyT keyS
  simp only [ByteArray.size_append, strOfNums_size, low_length, List.length_singleton]
  have h0 : (ByteArray.mk #[0]).size = 1 := rfl
  omega
end Go.Proofs.YtkkpdgfllnbigaaGreatDoor
namespace Go.Proofs.YtkkpdgfllnbigaaGreatDoor
open Go.RowKit Go.Shelf
set_option linter.unusedSimpArgs false
attribute [local go_sem] Oper.semAt_some

set_option maxHeartbeats 4000000 in
set_option maxRecDepth 100000 in
theorem sameTexts_any {w : World} {ao bo : Option Addr} {c d : Nat} {l m : List ByteArray} (h : Rs w ao l) (k : Rs w bo m) (hl : l.length ≤ 1000000) (hm : m.length ≤ 1000000) : Calls Tryz.prog 19 #[.slice ao l.length c, .slice bo m.length d] w fun e w' => e = .returned (.bool (decide (l = m))) ∧ ∃ n, w' = w.drewN n := by
  obtain ⟨N, hN⟩ : ∃ N, N = l.length := ⟨_, rfl⟩
  obtain ⟨M, hM⟩ : ∃ N, N = m.length := ⟨_, rfl⟩
  obtain ⟨R, hR⟩ : ∃ R, R = decide (l = m) := ⟨_, rfl⟩
  rw [← hR]
  rw [← hN] at hl ⊢
  rw [← hM] at hm ⊢
  have H := hide (And.intro hN (And.intro hM (And.intro h k)))
  have HR := hide hR
  clear hN hM hR h k
  by_cases hNM : N = M
  · subst hNM
    go_enter Tryz.func19, Tryz.ntmps19
    go_wp2
    go_loopw [5] (fun iv wr => ∃ i : Nat, i ≤ N ∧ iv = .int .i64 i ∧ Hid (l.take i = m.take i) ∧ ∃ n, wr = w.drewN n) (fun iv _ => N - (intOf iv).toNat)
    case atStart => exact ⟨0, by omega, rfl, hide (by simp), 0, rfl⟩
    case round =>
      obtain ⟨i, hi, rfl, hrest, n, hwr⟩ := hrel
      have hlr : Rs wr ao l := by rw [hwr]; exact ⟨H.out.2.2.1.1, H.out.2.2.1.2⟩
      have hmr : Rs wr bo m := by rw [hwr]; exact ⟨H.out.2.2.2.1, H.out.2.2.2.2⟩
      have HWR := hide hwr
      clear hwr
      by_cases h1 : i < N
      · have z1 : (i : Int) < (N : Int) := by omega
        have d1 : decide (i < N) = true := by simpa using h1
        obtain ⟨x, hx⟩ : ∃ x, l[i]? = some x := ⟨_, List.getElem?_eq_getElem (by rw [← H.out.1]; exact h1)⟩
        obtain ⟨y, hy⟩ : ∃ y, m[i]? = some y := ⟨_, List.getElem?_eq_getElem (by rw [← H.out.2.1]; exact h1)⟩
        obtain ⟨ab, off, rfl, q0⟩ := hlr.at hx
        obtain ⟨bb, ob, rfl, p0⟩ := hmr.at hy
        have HX := hide (And.intro hx hy)
        clear hx hy hlr hmr
        by_cases hxy : x = y
        · have HXY := hide hxy
          have d2 : (x.toList == y.toList) = true := bytes_same.2 hxy
          clear hxy
          go_wp2
          go_quiet (fail)
          go_wp2
          go_roundw
          case rel => exact ⟨i + 1, by omega, by go_num, hide (by rw [List.take_add_one, List.take_add_one, HX.out.1, HX.out.2, hrest.out, HXY.out]), _, by rw [HWR.out, World.drewN_drewN]⟩
          case measure => simp [intOf]; omega
        · have hd : R = false := by
            rw [HR.out]
            simp only [decide_eq_false_iff_not]
            intro e
            have := HX.out.1.symm.trans ((congrArg (·[i]?) e).trans HX.out.2)
            exact hxy (by simpa using this)
          have d2 : (x.toList == y.toList) = false := by rw [Bool.eq_false_iff, Ne, bytes_same]; exact hxy
          have HD := hide hd
          clear hd hxy
          go_wp2
          go_quiet (fail)
          go_wp2
          go_ret
          exact ⟨by rw [HD.out]; rfl, _, by rw [HWR.out, World.drewN_drewN]⟩
      · obtain rfl : i = N := by omega
        have d1 : decide (i < i) = false := by simp
        go_wp2
        go_ret
        have : l = m := by
          have := hrest.out
          rwa [show l.take i = l by rw [H.out.1]; exact List.take_length, show m.take i = m by rw [H.out.2.1]; exact List.take_length] at this
        exact ⟨by rw [HR.out, decide_eq_true this]; rfl, n, HWR.out⟩
  · have e1 : ((N : Int) == (M : Int)) = false := by rw [beq_eq_false_iff_ne]; omega
    have hd : R = false := by
      rw [HR.out]
      simp only [decide_eq_false_iff_not]
      intro e
      exact hNM (by rw [H.out.1, H.out.2.1, e])
    subst hd
    go_enter Tryz.func19, Tryz.ntmps19
    go_wp2
    go_ret
    exact ⟨rfl, 0, rfl⟩


/-- The laws' stamps. -/
def atS (g : Int) : St := (g, 0, ⟨#[97]⟩, 1, 0)
end Go.Proofs.YtkkpdgfllnbigaaGreatDoor
namespace Go.Proofs.YtkkpdgfllnbigaaGreatDoor
open Go.RowKit Go.Shelf
set_option linter.unusedSimpArgs false
attribute [local go_sem] Oper.semAt_some

theorem refText_any (s : ByteArray) (w : World) : Calls Tryz.prog 8 #[.string s] w fun e w' => e = .returned (.bool (txtB s)) ∧ w' = w := by
  unfold txtB
  by_cases h : s.size ≤ 256
  · have h1 : (s.size : Int) ≤ 256 := by omega
    have h2 : decide ((s.size : Int) ≤ 256) = true := by simpa using h1
    have h3 : decide (s.size ≤ 256) = true := by simpa using h
    rw [h3]
    go_enter Tryz.func8, Tryz.ntmps8
    go_wp2
    go_ret
    exact ⟨rfl, rfl⟩
  · have h1 : ¬ (s.size : Int) ≤ 256 := by omega
    have h2 : decide ((s.size : Int) ≤ 256) = false := by simpa using h1
    have h3 : decide (s.size ≤ 256) = false := by simpa using h
    rw [h3]
    go_enter Tryz.func8, Tryz.ntmps8
    go_wp2
    go_ret
    exact ⟨rfl, rfl⟩
theorem perm_two {α : Type} {l : List α} {a b : α} (h : l.Perm [a, b]) : l = [a, b] ∨ l = [b, a] := by
  have hl := h.length_eq
  match l, hl with
  | [x, y], _ =>
    have hx : x ∈ [a, b] := h.mem_iff.1 (by simp)
    simp only [List.mem_cons, List.not_mem_nil, or_false] at hx
    rcases hx with rfl | rfl
    · have := (List.perm_cons x).1 h
      rw [List.perm_singleton] at this
      left; rw [this]
    · have h2 := h.trans (List.Perm.swap x a [])
      have := (List.perm_cons x).1 h2
      rw [List.perm_singleton] at this
      right; rw [this]
end Go.Proofs.YtkkpdgfllnbigaaGreatDoor
namespace Go.Proofs.YtkkpdgfllnbigaaGreatDoor
open Go.RowKit Go.Shelf
set_option linter.unusedSimpArgs false
attribute [local go_sem] Oper.semAt_some

theorem exec_st27 {ev' : Operand → Value} {x y : Operand} {T : TypeId} {w : World} {B : Nat} {u : Value} {pt : Option Addr} (hx : ev' x = .pointer (some ⟨B, 0, none⟩)) (hy : ev' y = .agg #[.pointer pt]) (h : w.cell? ⟨B, 0, none⟩ = some u) (hf : w.frozen? ⟨B, 0, none⟩ = false) : (execOp ev' { dst := none, op := .store 43 x y, type := T, pos := "", after := #[], guard := none }).run Tryz.prog w = .ok .skip (w.setCell ⟨B, 0, none⟩ (.pointer pt)) := by
  unfold execOp
  simp only [hx, hy]
  go_simp
theorem exec_al27 {ev' : Operand → Value} {T : TypeId} (w : World) : (execOp ev' { dst := none, op := .alloc 43, type := T, pos := "", after := #[], guard := none }).run Tryz.prog w = .ok (.value (.pointer (some ⟨w.heap.size, 0, none⟩))) (w.alloc (.cells #[.pointer none] 43)) := by
  unfold execOp
  go_simp
/-- A map in a box. -/
def Boxd (w : World) (B : Nat) (pt : Option Addr) (t : Pm.T) : Prop := w.heap[B]? = some (.cells #[.pointer pt] 43 (0, 0)) ∧ t.ptr = .pointer pt ∧ Mg w t
theorem Boxd.below {w w' : World} {B : Nat} {pt : Option Addr} {t : Pm.T} (h : Boxd w B pt t) (hb : Below w.heap.size w w') : Boxd w' B pt t := ⟨(hb.block _ (gI h.1).1).trans h.1, h.2.1, h.2.2.below hb⟩
theorem Boxd.cell {w : World} {B : Nat} {pt : Option Addr} {t : Pm.T} (h : Boxd w B pt t) : w.cell? ⟨B, 0, none⟩ = some (.pointer pt) := (cell_of_row _ _ 0 _ 43 (0, 0) h.1).trans rfl
theorem Mg.aside {w w' : World} {B : Nat} {x : Value} {t : Pm.T} (h : Mg w t) (hw : w.heap[B]? = some (.cells #[x] 43 (0, 0))) (ho : Only (fun j => j = B) w w') : Mg w' t := ⟨Pm.In.aside hw ho h.inn, h.srt, h.bal, h.few, h.key⟩
theorem Ot.rs {w : World} {B n c : Nat} {ao : Option Addr} {L : List ByteArray} (h : Ot w B (.slice ao n c) L) : Rs w ao L := by
  rcases h with ⟨h1, h2⟩
  rcases h2 with ⟨e, e2⟩ | ⟨g, cap, cur, e, hb, hg, hnc, hcm, hcs, htake⟩
  · have : L = [] := List.eq_nil_of_length_eq_zero e2
    subst this
    exact Rs.nil _ _
  · injection e with e1 e2 e3
    subst e1
    refine ⟨fun h => (by cases h), fun a ha j s hj => ?_⟩
    cases ha
    rw [add_lit, cell_of_row _ _ (0 + j) _ 9 (0, 0) hg, Nat.zero_add]
    have hj' : (L.map Value.string)[j]? = some (.string s) := by rw [List.getElem?_map, hj]; rfl
    rw [← htake, List.getElem?_take] at hj'
    split at hj'
    · simpa using hj'
    · cases hj'
theorem two_re {W : World} {b : Nat} {x y : El} (h : W.heap[b]? = some (.cells (flatE [x, y]).toArray 33 (0, 0))) : Re W (some ⟨b, 0, none⟩) [x, y] := Re.ofRe0 (fun j v hj => by
  rw [cell_of_row _ _ (0 + j) (flatE [x, y]).toArray 33 (0, 0) h, Nat.zero_add]
  simpa using hj)
end Go.Proofs.YtkkpdgfllnbigaaGreatDoor
