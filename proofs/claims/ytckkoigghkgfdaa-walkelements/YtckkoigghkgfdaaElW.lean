/-
  WalkElements: THE WALK.
-/
import Derived.Test.YtckkoigghkgfdaaUnW
import Derived.Test.YtckkoigghkgfdaaOrdE
import Derived.Test.YtckkoigghkgfdaaKeys8
namespace Go.Proofs.Ytckkoigghkgfdaa
open Go.RowKit Go.Shelf
set_option linter.unusedSimpArgs false

theorem Trio.swap {V : ByteArray → Int × Bool → Prop} {W : World} {o a b : T} (h : Trio V W o a b) : Trio V W o b a := ⟨h.io, h.ib, h.ia, h.so, h.sb, h.sa, h.bo, h.bb, h.ba, h.vo, h.vb, h.va, h.no, by have := h.nab; omega⟩
theorem bytes_ext {a b : ByteArray} (h : a.toList = b.toList) : a = b := by
  rw [ByteArray.toList_eq, ByteArray.toList_eq] at h
  obtain ⟨⟨a⟩⟩ := a
  obtain ⟨⟨b⟩⟩ := b
  simpa using h
theorem keys_three {o a b : T} {po pa pb : Option Addr} {W : World} (ho : o.ptr = .pointer po) (ha : a.ptr = .pointer pa) (hb : b.ptr = .pointer pb) (io : In W o) (ia : In W a) (ib : In W b) (no : o.n ≤ 1000) (na : a.n ≤ 1000) (nb : b.n ≤ 1000) :
    Calls Try.prog 11 #[.slice (some ⟨W.heap.size, 0, none⟩) 3 3] (W.alloc (.cells #[.pointer po, .pointer pa, .pointer pb] 29)) fun e w' => ∃ sv, e = .returned sv ∧ Cs w' sv ((o.keys ++ a.keys ++ b.keys).map .string) ∧ Below W.heap.size W w' := by
  have bw : Below W.heap.size W (W.alloc (.cells #[.pointer po, .pointer pa, .pointer pb] 29)) := (Below.refl _ W).alloc (Nat.le_refl _) _
  have hr := heap_alloc_new W (.cells #[.pointer po, .pointer pa, .pointer pb] 29)
  refine (keys_any [o, a, b] W.heap.size 0 3 (W.alloc (.cells #[.pointer po, .pointer pa, .pointer pb] 29)) (fun j t hj => ?_) (fun t ht => ?_) (by simp)).mono ?_
  · rw [cell_of_row _ _ _ _ 29 (0, 0) hr]
    match j, hj with
    | 0, hj => simp at hj; subst hj; simp [ho]
    | 1, hj => simp at hj; subst hj; simp [ha]
    | 2, hj => simp at hj; subst hj; simp [hb]
  · simp only [List.mem_cons, List.not_mem_nil, or_false] at ht
    rcases ht with rfl | rfl | rfl
    · exact ⟨In.below bw io, no⟩
    · exact ⟨In.below bw ia, na⟩
    · exact ⟨In.below bw ib, nb⟩
  · rintro e w' ⟨sv, he, hc, hb'⟩
    exact ⟨sv, he, by simpa [List.append_assoc] using hc, bw.trans (hb'.mono bw.size)⟩
theorem keeps_swap {fv : ByteArray → Int} {k : ByteArray} {p q r : Int × Bool} (hp : Told fv k p) (hq : Told fv k q) (hr : Told fv k r) : keeps p r q = keeps p q r ∧ Told fv k (keeps p q r) := by
  rcases hp with rfl | rfl <;> rcases hq with rfl | rfl <;> rcases hr with rfl | rfl <;> simp [keeps, Told]
theorem element_says {W : World} {o a b m n : T} {k : ByteArray} {ks1 ks2 : List ByteArray} (h : Trio (Told fvL) W o a b) (hm : RunSays (fun _ p q r => keeps p q r) o a b m ks1) (hn : RunSays (fun _ p q r => keeps p q r) o b a n ks2) : look k m.list = keeps (look k o.list) (look k a.list) (look k b.list) ∧ look k n.list = keeps (look k o.list) (look k a.list) (look k b.list) ∧ Told fvL k (keeps (look k o.list) (look k a.list) (look k b.list)) := by
  obtain ⟨h1, h2⟩ := keeps_swap (h.vo k) (h.va k) (h.vb k)
  exact ⟨hm.look k, by rw [hn.look k, h1], h2⟩
theorem element_counts {W : World} {o a b m n : T} {L : List ByteArray} {c : Nat} {ks1 ks2 : List ByteArray} (h : Trio (Told fvL) W o a b) (hm : RunSays (fun _ p q r => keeps p q r) o a b m ks1) (hn : RunSays (fun _ p q r => keeps p q r) o b a n ks2) (hL : L = o.keys ++ a.keys ++ b.keys) (hc : Counted (fun k => (keeps (look k o.list) (look k a.list) (look k b.list)).2) L c) : m.n = c ∧ n.n = c := by
  have hin : ∀ k, (keeps (look k o.list) (look k a.list) (look k b.list)).2 = true → k ∈ L := fun k hk => by
    have : (look k a.list).2 = true ∨ (look k b.list).2 = true := by
      unfold keeps at hk
      split at hk
      · rename_i h1; simp at h1; exact .inl h1.1
      · split at hk
        · rename_i h1; simp at h1; exact .inr h1.1
        · cases hk
    rw [hL]
    rcases this with h1 | h1
    · have := look_true.1 h1; simp only [List.mem_append]; exact .inl (.inr this)
    · have := look_true.1 h1; simp only [List.mem_append]; exact .inr this
  refine ⟨hc.n hm.srt (fun k => ?_), hc.n hn.srt (fun k => ?_)⟩
  · rw [(element_says (k := k) h hm hn).1]
    exact ⟨fun hk => ⟨hin k hk, hk⟩, fun hk => hk.2⟩
  · rw [(element_says (k := k) h hm hn).2.1]
    exact ⟨fun hk => ⟨hin k hk, hk⟩, fun hk => hk.2⟩
set_option maxHeartbeats 16000000 in
set_option maxRecDepth 100000 in
theorem elements_walk (HK : KnownOk) {ks pa pb : List ByteArray} {ta tb : List Int} {s0 s1 s2 s3 s4 : Value} (x y z : Bool) (w : World) (h : ThreeIs w s0 s1 s2 s3 s4 ks pa pb ta tb) :
    Calls Try.prog 3 #[.agg #[s0, s1, s2, s3, s4, .bool x, .bool y, .bool z]] w fun e w' => e = .returned (.bool true) ∧ Below w.heap.size w w' := by
  have hf := h.few x y z (w.alloc (.cells #[s0, s1, s2, s3, s4, .bool x, .bool y, .bool z] 25))
  have b0 : Below w.heap.size w (w.alloc (.cells #[s0, s1, s2, s3, s4, .bool x, .bool y, .bool z] 25)) := (Below.refl _ w).alloc (Nat.le_refl _) _
  have r0 := heap_alloc_new w (.cells #[s0, s1, s2, s3, s4, .bool x, .bool y, .bool z] 25)
  obtain ⟨a0, n0, c0, a1, n1, c1, a2, n2, c2, a3, n3, c3, a4, n4, c4, rfl, rfl, rfl, rfl, rfl⟩ := h.shapes
  have HT := hide (And.intro h (And.intro b0 r0))
  replace HK := hide HK
  clear h b0 r0
  by_cases hfew : fewB ks pa pb ta tb
  · have hf1 := hf.1 hfew
    have HF := hide hfew
    clear hf hfew
    go_enter Try.func3, Try.ntmps3
    go_upto_if 27 with (go_at_call 7; refine hf1.mono ?_; rintro e w1 ⟨rfl, b1⟩; dsimp only)
    clear hf1
    have r1 := (b1.block _ (Array.getElem?_eq_some_iff.1 HT.out.2.2).1).trans HT.out.2.2
    have cx0 : w1.cell? ⟨w.heap.size, 0, none⟩ = some (.slice a0 n0 c0) := (cell_of_row _ _ 0 _ 25 (0, 0) r1).trans rfl
    have cx1 : w1.cell? ⟨w.heap.size, 1, none⟩ = some (.slice a1 n1 c1) := (cell_of_row _ _ 1 _ 25 (0, 0) r1).trans rfl
    have cx2 : w1.cell? ⟨w.heap.size, 2, none⟩ = some (.slice a2 n2 c2) := (cell_of_row _ _ 2 _ 25 (0, 0) r1).trans rfl
    have cx3 : w1.cell? ⟨w.heap.size, 3, none⟩ = some (.slice a3 n3 c3) := (cell_of_row _ _ 3 _ 25 (0, 0) r1).trans rfl
    have cx4 : w1.cell? ⟨w.heap.size, 4, none⟩ = some (.slice a4 n4 c4) := (cell_of_row _ _ 4 _ 25 (0, 0) r1).trans rfl
    have cx5 : w1.cell? ⟨w.heap.size, 5, none⟩ = some (.bool x) := (cell_of_row _ _ 5 _ 25 (0, 0) r1).trans rfl
    have cx6 : w1.cell? ⟨w.heap.size, 6, none⟩ = some (.bool y) := (cell_of_row _ _ 6 _ 25 (0, 0) r1).trans rfl
    have cx7 : w1.cell? ⟨w.heap.size, 7, none⟩ = some (.bool z) := (cell_of_row _ _ 7 _ 25 (0, 0) r1).trans rfl
    have bw1 := HT.out.2.1.trans (b1.mono HT.out.2.1.size)
    have H1 := hide bw1
    have hm := (HT.out.1.below bw1).maps x y z HF.out
    clear r1 b1 bw1
    go_upto_region 4 with (go_at_call 9; refine hm.mono ?_; rintro e w2 ⟨o, a, b, po, pa', pb', rfl, htr, b2⟩; dsimp only)
    clear hm cx0 cx1 cx2 cx3 cx4 cx5 cx6 cx7
    obtain ⟨m0, m1, m2, b3⟩ := new3 w2 (.cells #[.pointer po] 29) (.cells #[.pointer pa'] 29) (.cells #[.pointer pb'] 29)
    obtain ⟨w3, hw3⟩ : ∃ w3, w3 = ((w2.alloc (.cells #[.pointer po] 29)).alloc (.cells #[.pointer pa'] 29)).alloc (.cells #[.pointer pb'] 29) := ⟨_, rfl⟩
    rw [← hw3] at m0 m1 m2 b3 ⊢
    have d0 : w3.cell? ⟨w2.heap.size, 0, none⟩ = some (.pointer po) := (cell_of_row _ _ 0 _ 29 (0, 0) m0).trans rfl
    have d1 : w3.cell? ⟨w2.heap.size + 1, 0, none⟩ = some (.pointer pa') := (cell_of_row _ _ 0 _ 29 (0, 0) m1).trans rfl
    have d2 : w3.cell? ⟨w2.heap.size + 1 + 1, 0, none⟩ = some (.pointer pb') := (cell_of_row _ _ 0 _ 29 (0, 0) m2).trans rfl
    have b23 := b2.trans (b3.mono b2.size)
    have HP := hide htr.2
    have H3 := hide (And.intro (htr.1.below b3) (H1.out.trans (b23.mono H1.out.size)))
    obtain ⟨X0, hX0⟩ : ∃ X, X = w2.heap.size := ⟨_, rfl⟩
    obtain ⟨X1, hX1⟩ : ∃ X, X = w2.heap.size + 1 := ⟨_, rfl⟩
    obtain ⟨X2, hX2⟩ : ∃ X, X = w2.heap.size + 1 + 1 := ⟨_, rfl⟩
    rw [← hX2] at d2 ⊢
    rw [← hX1] at d1 ⊢
    rw [← hX0] at d0 ⊢
    clear hX0 hX1 hX2 hw3 m0 m1 m2 b3 b2 b23 htr H1
    have gE := elements_any fvL o a b w3 H3.out.1
    have gF : ∀ W, Below w3.heap.size w3 W → Calls Try.prog 10 #[.agg #[.pointer po], .agg #[.pointer pb'], .agg #[.pointer pa']] W fun e w' => ∃ t ks, e = .returned (.tuple #[mv t, .agg #[.int .i64 (ks.length : Nat), .int .i64 (ks.length : Nat), .int .i64 (madeIn [o, b, a] t : Nat)]]) ∧ Runs W.heap.size (fun _ p q r => keeps p q r) o b a t ks ∧ In w' t ∧ RunSays (fun _ p q r => keeps p q r) o b a t ks ∧ Below W.heap.size W w' := fun W hW => by
      have := elements_any fvL o b a W ((H3.out.1.below hW).swap)
      rw [mv_ptr HP.out.1, mv_ptr HP.out.2.1, mv_ptr HP.out.2.2.1] at this
      exact this
    rw [mv_ptr HP.out.1, mv_ptr HP.out.2.1, mv_ptr HP.out.2.2.1] at gE
    go_upto_region 5 with (go_at_call 10; refine gE.mono ?_; rintro e u0 ⟨m, ks1, he, -, im, sym, c0'⟩; obtain ⟨pm, hpm⟩ := m.ptr_shape; obtain ⟨RL, hRL⟩ : ∃ RL : Nat, RL = ks1.length := ⟨_, rfl⟩; obtain ⟨MM, hMM⟩ : ∃ MM : Nat, MM = madeIn [o, a, b] m := ⟨_, rfl⟩; rw [mv_ptr hpm, ← hRL, ← hMM] at he; subst he; have HM := hide (And.intro hpm (And.intro sym (show MM ≤ m.n by rw [hMM]; exact madeIn_le _ _))); clear hRL hMM hpm sym; dsimp only)
    clear gE
    obtain ⟨v1, hv1, e0, ⟨e00, -, e02⟩, f0⟩ := box_new2 u0 (.pointer pm) (.int .i64 (RL : Nat)) (.int .i64 (RL : Nat)) (.int .i64 (MM : Nat))
    rw [← hv1]
    have k0 := c0'.trans (f0.mono c0'.size)
    have H4 := hide (And.intro (H3.out.1.below k0) (And.intro (In.below f0 im) (And.intro k0 (H3.out.2.trans (k0.mono H3.out.2.size)))))
    replace d0 := cell_stays d0 k0
    replace d1 := cell_stays d1 k0
    replace d2 := cell_stays d2 k0
    obtain ⟨Y0, hY0⟩ : ∃ Y, Y = u0.heap.size := ⟨_, rfl⟩
    obtain ⟨Y1, hY1⟩ : ∃ Y, Y = u0.heap.size + 1 := ⟨_, rfl⟩
    rw [← hY1] at e00 e02 ⊢
    rw [← hY0] at e0 ⊢
    clear hY0 hY1 hv1 f0 c0' im k0
    go_upto_region 6 with (go_at_call 10; refine (gF v1 H4.out.2.2.1).mono ?_; rintro e u1 ⟨n, ks2, he, -, inn, syn, c1'⟩; obtain ⟨pn, hpn⟩ := n.ptr_shape; obtain ⟨RL2, hRL2⟩ : ∃ RL : Nat, RL = ks2.length := ⟨_, rfl⟩; obtain ⟨MM2, hMM2⟩ : ∃ MM : Nat, MM = madeIn [o, b, a] n := ⟨_, rfl⟩; rw [mv_ptr hpn, ← hRL2, ← hMM2] at he; subst he; have HN2 := hide (And.intro hpn syn); clear hRL2 hMM2 hpn syn; dsimp only)
    clear gF
    obtain ⟨v2, hv2, e1, -, f1⟩ := box_new2 u1 (.pointer pn) (.int .i64 (RL2 : Nat)) (.int .i64 (RL2 : Nat)) (.int .i64 (MM2 : Nat))
    rw [← hv2]
    have k1 := c1'.trans (f1.mono c1'.size)
    have H5 := hide (And.intro (H4.out.1.below k1) (And.intro (In.below k1 H4.out.2.1) (And.intro (In.below f1 inn) (H4.out.2.2.2.trans (k1.mono H4.out.2.2.2.size)))))
    replace d0 := cell_stays d0 k1
    replace d1 := cell_stays d1 k1
    replace d2 := cell_stays d2 k1
    replace e0 := cell_stays e0 k1
    replace e00 := cell_stays e00 k1
    replace e02 := cell_stays e02 k1
    obtain ⟨Y2, hY2⟩ : ∃ Y, Y = u1.heap.size := ⟨_, rfl⟩
    rw [← hY2] at e1 ⊢
    clear hY2 hv2 f1 c1' inn k1 H3 H4
    have gK := keys_three (o := o) (a := a) (b := b) HP.out.1 HP.out.2.1 HP.out.2.2.1 H5.out.1.io H5.out.1.ia H5.out.1.ib (by have := HP.out.2.2.2; omega) (by have := HP.out.2.2.2; omega) (by have := HP.out.2.2.2; omega)
    go_upto_region 7 with (go_at_call 11; refine gK.mono ?_; rintro e wL ⟨sv, rfl, hcs, bL⟩; obtain ⟨la, lc, rfl, -⟩ := hcs.ex; have HCS := hide hcs; have HBL := hide bL; clear hcs bL; dsimp only)
    clear gK
    rw [List.length_map] at HCS
    simp only [List.length_map]
    obtain ⟨L, hL⟩ : ∃ L, L = o.keys ++ a.keys ++ b.keys := ⟨_, rfl⟩
    rw [← hL] at HCS ⊢
    obtain ⟨N, hN⟩ : ∃ N, N = L.length := ⟨_, rfl⟩
    rw [← hN] at HCS ⊢
    have hN1 : N ≤ 1000 := by rw [hN, hL, List.length_append, List.length_append, T.keys_len, T.keys_len, T.keys_len]; have := HP.out.2.2.2; omega
    have HLL := hide hL
    have HN := hide hN
    clear hL hN
    have H6 := hide (And.intro (H5.out.1.below HBL.out) (And.intro (In.below HBL.out H5.out.2.1) (And.intro (In.below HBL.out H5.out.2.2.1) (H5.out.2.2.2.trans (HBL.out.mono H5.out.2.2.2.size)))))
    replace d0 := cell_stays d0 HBL.out
    replace d1 := cell_stays d1 HBL.out
    replace d2 := cell_stays d2 HBL.out
    replace e0 := cell_stays e0 HBL.out
    replace e00 := cell_stays e00 HBL.out
    replace e02 := cell_stays e02 HBL.out
    replace e1 := cell_stays e1 HBL.out
    have HCL := hide (And.intro d0 (And.intro d1 (And.intro d2 (And.intro e0 (And.intro e00 (And.intro e02 e1))))))
    clear d0 d1 d2 e0 e00 e02 e1 H5 HBL
    have HI : Hid (Counted (fun k => (keeps (look k o.list) (look k a.list) (look k b.list)).2) (L.take 0) 0) := hide (Counted.none _)
    go_wp2
    go_loopw [11, 12] (fun v11 v12 wr => ∃ (i c : Nat), i ≤ N ∧ c ≤ i ∧ v12 = .int .i64 i ∧ v11 = .int .i64 c ∧ Hid (Counted (fun k => (keeps (look k o.list) (look k a.list) (look k b.list)).2) (L.take i) c) ∧ Hid (Below wL.heap.size wL wr)) (fun _ v12 _ => N - (intOf v12).toNat)
    case atStart => exact ⟨0, 0, by omega, by omega, rfl, rfl, HI, hide (Below.refl _ _)⟩
    case round =>
      clear HI
      obtain ⟨i, c, hi, hci, rfl, rfl, HCO, HB⟩ := hrel
      by_cases hiN : i < N
      · as_aux_lemma =>
        have y1 : (i : Int) < (N : Int) := by omega
        obtain ⟨k, hk⟩ : ∃ k, L[i]? = some k := ⟨L[i]'(by rw [← HN.out]; exact hiN), List.getElem?_eq_getElem _⟩
        obtain ⟨lb, lo, lc', e2, ck⟩ := csAt HCS.out (j := i) (u := .string k) (by rw [List.getElem?_map, hk]; rfl)
        simp only [Value.slice.injEq] at e2
        obtain ⟨rfl, -, rfl⟩ := e2
        have HKK := hide hk
        have HLC : Hid (∀ (j : Nat) kj, L[j]? = some kj → wL.cell? ⟨lb, lo + j, none⟩ = some (.string kj)) := hide (fun j kj hj => by
          obtain ⟨b', o', c', e3, c3⟩ := csAt HCS.out (j := j) (u := .string kj) (by rw [List.getElem?_map, hj]; rfl)
          simp only [Value.slice.injEq, Option.some.injEq, Addr.mk.injEq] at e3
          obtain ⟨⟨rfl, rfl, -⟩, -⟩ := e3
          exact c3)
        clear hk
        have q0 : wr.cell? ⟨X0, 0, none⟩ = some (.pointer po) ∧ wr.cell? ⟨X1, 0, none⟩ = some (.pointer pa') ∧ wr.cell? ⟨X2, 0, none⟩ = some (.pointer pb') ∧ wr.cell? ⟨Y0, 0, none⟩ = some (.pointer pm) ∧ wr.cell? ⟨Y2, 0, none⟩ = some (.pointer pn) ∧ wr.cell? ⟨lb, lo + i, none⟩ = some (.string k) ∧ Hid (Below wL.heap.size wL wr) := ⟨cell_stays HCL.out.1 HB.out, cell_stays HCL.out.2.1 HB.out, cell_stays HCL.out.2.2.1 HB.out, cell_stays HCL.out.2.2.2.1 HB.out, cell_stays HCL.out.2.2.2.2.2.2 HB.out, cell_stays ck HB.out, HB⟩
        clear ck
        have hX := element_says (k := k) H6.out.1 HM.out.2.1 HN2.out.2
        obtain ⟨⟨p1, p2⟩, hp⟩ : ∃ p, p = look k o.list := ⟨_, rfl⟩
        obtain ⟨⟨s1', s2'⟩, hq⟩ : ∃ p, p = look k a.list := ⟨_, rfl⟩
        obtain ⟨⟨r1, r2⟩, hr⟩ : ∃ p, p = look k b.list := ⟨_, rfl⟩
        obtain ⟨⟨V, Wb⟩, hV⟩ : ∃ v, v = keeps (look k o.list) (look k a.list) (look k b.list) := ⟨_, rfl⟩
        have hpartp : ∀ W, Below wL.heap.size wL W → Calls Try.prog 12 #[.agg #[.pointer po], .string k] W fun e w' => ∃ v, e = .returned v ∧ (v = .agg #[.int .i64 p1, .bool p2]) ∧ Below W.heap.size W w' := fun W hW => by
          have := part_any o k W (In.below hW H6.out.1.io) H6.out.1.so
          rw [mv_ptr HP.out.1, ← hp] at this
          exact this.mono (fun e w' h => ⟨_, h.1, rfl, h.2⟩)
        have hparts : ∀ W, Below wL.heap.size wL W → Calls Try.prog 12 #[.agg #[.pointer pa'], .string k] W fun e w' => ∃ v, e = .returned v ∧ (v = .agg #[.int .i64 s1', .bool s2']) ∧ Below W.heap.size W w' := fun W hW => by
          have := part_any a k W (In.below hW H6.out.1.ia) H6.out.1.sa
          rw [mv_ptr HP.out.2.1, ← hq] at this
          exact this.mono (fun e w' h => ⟨_, h.1, rfl, h.2⟩)
        have hpartr : ∀ W, Below wL.heap.size wL W → Calls Try.prog 12 #[.agg #[.pointer pb'], .string k] W fun e w' => ∃ v, e = .returned v ∧ (v = .agg #[.int .i64 r1, .bool r2]) ∧ Below W.heap.size W w' := fun W hW => by
          have := part_any b k W (In.below hW H6.out.1.ib) H6.out.1.sb
          rw [mv_ptr HP.out.2.2.1, ← hr] at this
          exact this.mono (fun e w' h => ⟨_, h.1, rfl, h.2⟩)
        have hgm : ∀ W, Below wL.heap.size wL W → Calls Try.prog 13 #[.agg #[.pointer pm], .string k] W fun e w' => e = .returned (.tuple #[.int .i64 V, .bool Wb]) ∧ Below W.heap.size W w' := fun W hW => by
          have := get_any m k W (In.below hW H6.out.2.1)
          have hf := find_look m k HM.out.2.1.srt
          rw [hX.1, ← hV, Prod.mk.injEq] at hf
          rw [mv_ptr HM.out.1, hf.1, hf.2] at this
          exact this
        have hgn : ∀ W, Below wL.heap.size wL W → Calls Try.prog 13 #[.agg #[.pointer pn], .string k] W fun e w' => e = .returned (.tuple #[.int .i64 V, .bool Wb]) ∧ Below W.heap.size W w' := fun W hW => by
          have := get_any n k W (In.below hW H6.out.2.2.1)
          have hf := find_look n k HN2.out.2.srt
          rw [hX.2.1, ← hV, Prod.mk.injEq] at hf
          rw [mv_ptr HN2.out.1, hf.1, hf.2] at this
          exact this
        have hkp : ∀ W, Calls Try.prog 14 #[.string k, .agg #[.int .i64 p1, .bool p2], .agg #[.int .i64 s1', .bool s2'], .agg #[.int .i64 r1, .bool r2]] W fun e w' => e = .returned (.tuple #[.int .i64 V, .bool Wb]) ∧ Below W.heap.size W w' := fun W => by
          have := keep_any k (p1, p2) (s1', s2') (r1, r2) W
          rw [hp, hq, hr, ← hV, ← hp, ← hq, ← hr] at this
          exact this
        have hstay : ∀ W, Calls Try.prog 15 #[.agg #[.int .i64 p1, .bool p2], .agg #[.int .i64 s1', .bool s2'], .agg #[.int .i64 r1, .bool r2]] W fun e w' => e = .returned (.bool Wb) ∧ Below W.heap.size W w' := fun W => by
          have := stays_any (p1, p2) (s1', s2') (r1, r2) W
          rw [hp, hq, hr, ← hV, ← hp, ← hq, ← hr] at this
          exact this
        have HPW : Hid ((fun k => (keeps (look k o.list) (look k a.list) (look k b.list)).2) k = Wb) := hide (by show (keeps (look k o.list) (look k a.list) (look k b.list)).2 = Wb; rw [← hV])
        have hVW : (Wb = true → V = (k.size : Nat)) ∧ (Wb = false → V = 0) := by
          have := hX.2.2
          rw [← hV] at this
          rcases this with h | h
          · rw [Prod.mk.injEq] at h; rw [h.1, h.2]; exact ⟨fun h => (by cases h), fun _ => rfl⟩
          · rw [Prod.mk.injEq] at h; rw [h.1, h.2]; exact ⟨fun _ => rfl, fun h => (by cases h)⟩
        clear hX hp hq hr hV
        go_upto_region 11 with (fail)
        have qd : wr.drew.cell? ⟨X0, 0, none⟩ = some (.pointer po) ∧ wr.drew.cell? ⟨X1, 0, none⟩ = some (.pointer pa') ∧ wr.drew.cell? ⟨X2, 0, none⟩ = some (.pointer pb') ∧ wr.drew.cell? ⟨Y0, 0, none⟩ = some (.pointer pm) ∧ wr.drew.cell? ⟨Y2, 0, none⟩ = some (.pointer pn) ∧ wr.drew.cell? ⟨lb, lo + i, none⟩ = some (.string k) ∧ Hid (Below wL.heap.size wL wr.drew) := ⟨q0.1, q0.2.1, q0.2.2.1, q0.2.2.2.1, q0.2.2.2.2.1, q0.2.2.2.2.2.1, hide (q0.2.2.2.2.2.2.out.trans ((drew_below wr).mono q0.2.2.2.2.2.2.out.size))⟩
        refine wp_region_held_drew (S := (fun w' => w'.cell? ⟨X0, 0, none⟩ = some (.pointer po) ∧ w'.cell? ⟨X1, 0, none⟩ = some (.pointer pa') ∧ w'.cell? ⟨X2, 0, none⟩ = some (.pointer pb') ∧ w'.cell? ⟨Y0, 0, none⟩ = some (.pointer pm) ∧ w'.cell? ⟨Y2, 0, none⟩ = some (.pointer pn) ∧ w'.cell? ⟨lb, lo + i, none⟩ = some (.string k) ∧ Hid (Below wL.heap.size wL w'))) (by kernel_rfl) qd (fun hHeld => ?_)
        try dsimp only at hHeld
        refine take_op (i := 0) (d := 60) (OP := Op.load 29 (Operand.tmp 3)) (T := 29) (v := ?vzz1) rfl rfl rfl rfl (by kernel_rfl) (by kernel_rfl) (by kernel_rfl) (fun _ _ _ h => h) (by rfl) ?hzz1 hHeld ?rzz1
        case hzz1 => (intro w' hSw; (try dsimp only at hSw); go_simp <;> with_reducible rfl)
        try simp only [Act.put, List.setIfInBounds_toArray, List.set_cons_zero, List.set_cons_succ]
        refine take_op (i := 1) (d := 61) (OP := Op.move (Operand.tmp 10)) (T := 22) (v := ?vzz2) rfl rfl rfl rfl (by kernel_rfl) (by kernel_rfl) (by kernel_rfl) (fun _ _ _ h => h) (by rfl) ?hzz2 hHeld ?rzz2
        case hzz2 => (intro w' hSw; (try dsimp only at hSw); go_simp <;> with_reducible rfl)
        try simp only [Act.put, List.setIfInBounds_toArray, List.set_cons_zero, List.set_cons_succ]
        refine take_op (i := 2) (d := 62) (OP := Op.move (Operand.tmp 12)) (T := 3) (v := ?vzz3) rfl rfl rfl rfl (by kernel_rfl) (by kernel_rfl) (by kernel_rfl) (fun _ _ _ h => h) (by rfl) ?hzz3 hHeld ?rzz3
        case hzz3 => (intro w' hSw; (try dsimp only at hSw); go_simp <;> with_reducible rfl)
        try simp only [Act.put, List.setIfInBounds_toArray, List.set_cons_zero, List.set_cons_succ]
        refine take_op (i := 3) (d := 63) (OP := Op.indexAddr 22 (Operand.tmp 61) (Operand.tmp 62)) (T := 0) (v := ?vzz4) rfl rfl rfl rfl (by kernel_rfl) (by kernel_rfl) (by kernel_rfl) (fun _ _ _ h => h) (by rfl) ?hzz4 hHeld ?rzz4
        case hzz4 => (intro w' hSw; (try dsimp only at hSw); go_simp <;> with_reducible rfl)
        try simp only [Act.put, List.setIfInBounds_toArray, List.set_cons_zero, List.set_cons_succ]
        refine take_op (i := 4) (d := 64) (OP := Op.load 9 (Operand.tmp 63)) (T := 9) (v := ?vzz5) rfl rfl rfl rfl (by kernel_rfl) (by kernel_rfl) (by kernel_rfl) (fun _ _ _ h => h) (by rfl) ?hzz5 hHeld ?rzz5
        case hzz5 => (intro w' hSw; (try dsimp only at hSw); go_simp <;> with_reducible rfl)
        try simp only [Act.put, List.setIfInBounds_toArray, List.set_cons_zero, List.set_cons_succ]
        refine take_op (i := 6) (d := 66) (OP := Op.load 29 (Operand.tmp 4)) (T := 29) (v := ?vzz6) rfl rfl rfl rfl (by kernel_rfl) (by kernel_rfl) (by kernel_rfl) (fun _ _ _ h => h) (by rfl) ?hzz6 hHeld ?rzz6
        case hzz6 => (intro w' hSw; (try dsimp only at hSw); go_simp <;> with_reducible rfl)
        try simp only [Act.put, List.setIfInBounds_toArray, List.set_cons_zero, List.set_cons_succ]
        refine take_op (i := 7) (d := 67) (OP := Op.move (Operand.tmp 10)) (T := 22) (v := ?vzz7) rfl rfl rfl rfl (by kernel_rfl) (by kernel_rfl) (by kernel_rfl) (fun _ _ _ h => h) (by rfl) ?hzz7 hHeld ?rzz7
        case hzz7 => (intro w' hSw; (try dsimp only at hSw); go_simp <;> with_reducible rfl)
        try simp only [Act.put, List.setIfInBounds_toArray, List.set_cons_zero, List.set_cons_succ]
        refine take_op (i := 8) (d := 68) (OP := Op.move (Operand.tmp 12)) (T := 3) (v := ?vzz8) rfl rfl rfl rfl (by kernel_rfl) (by kernel_rfl) (by kernel_rfl) (fun _ _ _ h => h) (by rfl) ?hzz8 hHeld ?rzz8
        case hzz8 => (intro w' hSw; (try dsimp only at hSw); go_simp <;> with_reducible rfl)
        try simp only [Act.put, List.setIfInBounds_toArray, List.set_cons_zero, List.set_cons_succ]
        refine take_op (i := 9) (d := 69) (OP := Op.indexAddr 22 (Operand.tmp 67) (Operand.tmp 68)) (T := 0) (v := ?vzz9) rfl rfl rfl rfl (by kernel_rfl) (by kernel_rfl) (by kernel_rfl) (fun _ _ _ h => h) (by rfl) ?hzz9 hHeld ?rzz9
        case hzz9 => (intro w' hSw; (try dsimp only at hSw); go_simp <;> with_reducible rfl)
        try simp only [Act.put, List.setIfInBounds_toArray, List.set_cons_zero, List.set_cons_succ]
        refine take_op (i := 10) (d := 70) (OP := Op.load 9 (Operand.tmp 69)) (T := 9) (v := ?vzz10) rfl rfl rfl rfl (by kernel_rfl) (by kernel_rfl) (by kernel_rfl) (fun _ _ _ h => h) (by rfl) ?hzz10 hHeld ?rzz10
        case hzz10 => (intro w' hSw; (try dsimp only at hSw); go_simp <;> with_reducible rfl)
        try simp only [Act.put, List.setIfInBounds_toArray, List.set_cons_zero, List.set_cons_succ]
        refine take_op (i := 12) (d := 72) (OP := Op.load 29 (Operand.tmp 5)) (T := 29) (v := ?vzz11) rfl rfl rfl rfl (by kernel_rfl) (by kernel_rfl) (by kernel_rfl) (fun _ _ _ h => h) (by rfl) ?hzz11 hHeld ?rzz11
        case hzz11 => (intro w' hSw; (try dsimp only at hSw); go_simp <;> with_reducible rfl)
        try simp only [Act.put, List.setIfInBounds_toArray, List.set_cons_zero, List.set_cons_succ]
        refine take_op (i := 13) (d := 73) (OP := Op.move (Operand.tmp 10)) (T := 22) (v := ?vzz12) rfl rfl rfl rfl (by kernel_rfl) (by kernel_rfl) (by kernel_rfl) (fun _ _ _ h => h) (by rfl) ?hzz12 hHeld ?rzz12
        case hzz12 => (intro w' hSw; (try dsimp only at hSw); go_simp <;> with_reducible rfl)
        try simp only [Act.put, List.setIfInBounds_toArray, List.set_cons_zero, List.set_cons_succ]
        refine take_op (i := 14) (d := 74) (OP := Op.move (Operand.tmp 12)) (T := 3) (v := ?vzz13) rfl rfl rfl rfl (by kernel_rfl) (by kernel_rfl) (by kernel_rfl) (fun _ _ _ h => h) (by rfl) ?hzz13 hHeld ?rzz13
        case hzz13 => (intro w' hSw; (try dsimp only at hSw); go_simp <;> with_reducible rfl)
        try simp only [Act.put, List.setIfInBounds_toArray, List.set_cons_zero, List.set_cons_succ]
        refine take_op (i := 15) (d := 75) (OP := Op.indexAddr 22 (Operand.tmp 73) (Operand.tmp 74)) (T := 0) (v := ?vzz14) rfl rfl rfl rfl (by kernel_rfl) (by kernel_rfl) (by kernel_rfl) (fun _ _ _ h => h) (by rfl) ?hzz14 hHeld ?rzz14
        case hzz14 => (intro w' hSw; (try dsimp only at hSw); go_simp <;> with_reducible rfl)
        try simp only [Act.put, List.setIfInBounds_toArray, List.set_cons_zero, List.set_cons_succ]
        refine take_op (i := 16) (d := 76) (OP := Op.load 9 (Operand.tmp 75)) (T := 9) (v := ?vzz15) rfl rfl rfl rfl (by kernel_rfl) (by kernel_rfl) (by kernel_rfl) (fun _ _ _ h => h) (by rfl) ?hzz15 hHeld ?rzz15
        case hzz15 => (intro w' hSw; (try dsimp only at hSw); go_simp <;> with_reducible rfl)
        try simp only [Act.put, List.setIfInBounds_toArray, List.set_cons_zero, List.set_cons_succ]
        refine to_reg9 (ops' := ops_regE) (l' := #[true, true, true, true, true, false, true, true, true, true, true, false, true, true, true, true, true, false, false, false, false, false, false, false]) rfl (by kernel_rfl) ?_
        refine regE_any (w0 := wr.drew) (x5_0 := .agg #[.pointer po]) (x5_1 := .string k) (C5 := fun v _ => v = .agg #[.int .i64 p1, .bool p2]) (x11_0 := .agg #[.pointer pa']) (x11_1 := .string k) (C11 := fun v _ => v = .agg #[.int .i64 s1', .bool s2']) (x17_0 := .agg #[.pointer pb']) (x17_1 := .string k) (C17 := fun v _ => v = .agg #[.int .i64 r1, .bool r2]) (by simp [Act.eval]) (by simp [Act.eval]) (by simp [Act.eval]) (by simp [Act.eval]) (by simp [Act.eval]) (by simp [Act.eval]) (fun W hW => ⟨cell_stays qd.1 hW, cell_stays qd.2.1 hW, cell_stays qd.2.2.1 hW, cell_stays qd.2.2.2.1 hW, cell_stays qd.2.2.2.2.1 hW, cell_stays qd.2.2.2.2.2.1 hW, hide (qd.2.2.2.2.2.2.out.trans (hW.mono qd.2.2.2.2.2.2.out.size))⟩) (fun W hW => hpartp W (qd.2.2.2.2.2.2.out.trans (hW.mono qd.2.2.2.2.2.2.out.size))) (fun W hW => hparts W (qd.2.2.2.2.2.2.out.trans (hW.mono qd.2.2.2.2.2.2.out.size))) (fun W hW => hpartr W (qd.2.2.2.2.2.2.out.trans (hW.mono qd.2.2.2.2.2.2.out.size))) (fun _ _ _ h _ => h) (fun _ _ _ h _ => h) (fun _ _ _ h _ => h) ?_ wr.drew (Below.refl _ _)
        rintro v5 v11 v17 Bp Bs Br W hbW rfl rfl rfl z0 z1 z2 l0 l1 l2 n01 n02 n12
        try simp only [Act.put, List.setIfInBounds_toArray, List.set_cons_zero, List.set_cons_succ]
        have qW : W.cell? ⟨X0, 0, none⟩ = some (.pointer po) ∧ W.cell? ⟨X1, 0, none⟩ = some (.pointer pa') ∧ W.cell? ⟨X2, 0, none⟩ = some (.pointer pb') ∧ W.cell? ⟨Y0, 0, none⟩ = some (.pointer pm) ∧ W.cell? ⟨Y2, 0, none⟩ = some (.pointer pn) ∧ W.cell? ⟨lb, lo + i, none⟩ = some (.string k) ∧ Hid (Below wL.heap.size wL W) := ⟨cell_stays qd.1 hbW, cell_stays qd.2.1 hbW, cell_stays qd.2.2.1 hbW, cell_stays qd.2.2.2.1 hbW, cell_stays qd.2.2.2.2.1 hbW, cell_stays qd.2.2.2.2.2.1 hbW, hide (qd.2.2.2.2.2.2.out.trans (hbW.mono qd.2.2.2.2.2.2.out.size))⟩
        have hlow : wL.heap.size ≤ wr.heap.size := qd.2.2.2.2.2.2.out.size
        have hlt0 := World.block_lt_of_cell? wr.drew _ qd.1
        simp only at hlt0
        have hlt1 := World.block_lt_of_cell? wr.drew _ qd.2.1
        simp only at hlt1
        have hlt2 := World.block_lt_of_cell? wr.drew _ qd.2.2.1
        simp only at hlt2
        have hlt3 := World.block_lt_of_cell? wr.drew _ qd.2.2.2.1
        simp only at hlt3
        have hlt4 := World.block_lt_of_cell? wr.drew _ qd.2.2.2.2.1
        simp only at hlt4
        have hlt5 := World.block_lt_of_cell? wr.drew _ qd.2.2.2.2.2.1
        simp only at hlt5
        have hdz : wr.drew.heap.size = wr.heap.size := rfl
        have e0 : W.cell? ⟨Bp, 0, none⟩ = some (.int .i64 0) := (cell_of_row _ _ 0 _ 38 (0, 0) z0).trans rfl
        have e1 : W.cell? ⟨Bp, 1, none⟩ = some (.bool false) := (cell_of_row _ _ 1 _ 38 (0, 0) z0).trans rfl
        have y0' : W.frozen? ⟨Bp, 0, none⟩ = false := frozen_of_row _ _ 0 _ 38 z0
        have y1' : W.frozen? ⟨Bp, 1, none⟩ = false := frozen_of_row _ _ 1 _ 38 z0
        obtain ⟨s0, o0⟩ := set2 (.int .i64 p1) (.bool p2) z0
        obtain ⟨y0, hy0⟩ : ∃ y, y = ((W.setCell ⟨Bp, 0, none⟩ (.int .i64 p1)).setCell ⟨Bp, 1, none⟩ (.bool p2)) := ⟨_, rfl⟩
        rw [← hy0] at s0 o0
        have qy0 : y0.cell? ⟨X0, 0, none⟩ = some (.pointer po) ∧ y0.cell? ⟨X1, 0, none⟩ = some (.pointer pa') ∧ y0.cell? ⟨X2, 0, none⟩ = some (.pointer pb') ∧ y0.cell? ⟨Y0, 0, none⟩ = some (.pointer pm) ∧ y0.cell? ⟨Y2, 0, none⟩ = some (.pointer pn) ∧ y0.cell? ⟨lb, lo + i, none⟩ = some (.string k) ∧ Hid (Below wL.heap.size wL y0) := ⟨o0.cell qW.1 (fun e => by simp only at e; omega), o0.cell qW.2.1 (fun e => by simp only at e; omega), o0.cell qW.2.2.1 (fun e => by simp only at e; omega), o0.cell qW.2.2.2.1 (fun e => by simp only at e; omega), o0.cell qW.2.2.2.2.1 (fun e => by simp only at e; omega), o0.cell qW.2.2.2.2.2.1 (fun e => by simp only at e; omega), hide (Below.only qW.2.2.2.2.2.2.out o0 qW.2.2.2.2.2.2.out.size (fun j e => by omega))⟩
        have t1_0 := (o0.block _ (Array.getElem?_eq_some_iff.1 z1).1 (fun e => by omega)).trans z1
        have t2_0 := (o0.block _ (Array.getElem?_eq_some_iff.1 z2).1 (fun e => by omega)).trans z2
        refine skip_op (i := 21) (OP := Op.store 38 (Operand.tmp 13) (Operand.tmp 65)) (T := 0) (w' := y0) rfl rfl rfl rfl (by kernel_rfl) (by rfl) (by rw [hy0]; go_simp) ⟨qy0, ?_⟩
        try simp only [Act.put, List.setIfInBounds_toArray, List.set_cons_zero, List.set_cons_succ]
        clear e0 e1 y0' y1' hy0
        have e0 : y0.cell? ⟨Bs, 0, none⟩ = some (.int .i64 0) := (cell_of_row _ _ 0 _ 38 (0, 0) t1_0).trans rfl
        have e1 : y0.cell? ⟨Bs, 1, none⟩ = some (.bool false) := (cell_of_row _ _ 1 _ 38 (0, 0) t1_0).trans rfl
        have y0' : y0.frozen? ⟨Bs, 0, none⟩ = false := frozen_of_row _ _ 0 _ 38 t1_0
        have y1' : y0.frozen? ⟨Bs, 1, none⟩ = false := frozen_of_row _ _ 1 _ 38 t1_0
        obtain ⟨s1, o1⟩ := set2 (.int .i64 s1') (.bool s2') t1_0
        obtain ⟨y1, hy1⟩ : ∃ y, y = ((y0.setCell ⟨Bs, 0, none⟩ (.int .i64 s1')).setCell ⟨Bs, 1, none⟩ (.bool s2')) := ⟨_, rfl⟩
        rw [← hy1] at s1 o1
        have qy1 : y1.cell? ⟨X0, 0, none⟩ = some (.pointer po) ∧ y1.cell? ⟨X1, 0, none⟩ = some (.pointer pa') ∧ y1.cell? ⟨X2, 0, none⟩ = some (.pointer pb') ∧ y1.cell? ⟨Y0, 0, none⟩ = some (.pointer pm) ∧ y1.cell? ⟨Y2, 0, none⟩ = some (.pointer pn) ∧ y1.cell? ⟨lb, lo + i, none⟩ = some (.string k) ∧ Hid (Below wL.heap.size wL y1) := ⟨o1.cell qy0.1 (fun e => by simp only at e; omega), o1.cell qy0.2.1 (fun e => by simp only at e; omega), o1.cell qy0.2.2.1 (fun e => by simp only at e; omega), o1.cell qy0.2.2.2.1 (fun e => by simp only at e; omega), o1.cell qy0.2.2.2.2.1 (fun e => by simp only at e; omega), o1.cell qy0.2.2.2.2.2.1 (fun e => by simp only at e; omega), hide (Below.only qy0.2.2.2.2.2.2.out o1 qy0.2.2.2.2.2.2.out.size (fun j e => by omega))⟩
        have t0_1 := (o1.block _ (Array.getElem?_eq_some_iff.1 s0).1 (fun e => by omega)).trans s0
        have t2_1 := (o1.block _ (Array.getElem?_eq_some_iff.1 t2_0).1 (fun e => by omega)).trans t2_0
        refine skip_op (i := 22) (OP := Op.store 38 (Operand.tmp 14) (Operand.tmp 71)) (T := 0) (w' := y1) rfl rfl rfl rfl (by kernel_rfl) (by rfl) (by rw [hy1]; go_simp) ⟨qy1, ?_⟩
        try simp only [Act.put, List.setIfInBounds_toArray, List.set_cons_zero, List.set_cons_succ]
        clear e0 e1 y0' y1' hy1
        have e0 : y1.cell? ⟨Br, 0, none⟩ = some (.int .i64 0) := (cell_of_row _ _ 0 _ 38 (0, 0) t2_1).trans rfl
        have e1 : y1.cell? ⟨Br, 1, none⟩ = some (.bool false) := (cell_of_row _ _ 1 _ 38 (0, 0) t2_1).trans rfl
        have y0' : y1.frozen? ⟨Br, 0, none⟩ = false := frozen_of_row _ _ 0 _ 38 t2_1
        have y1' : y1.frozen? ⟨Br, 1, none⟩ = false := frozen_of_row _ _ 1 _ 38 t2_1
        obtain ⟨s2, o2⟩ := set2 (.int .i64 r1) (.bool r2) t2_1
        obtain ⟨y2, hy2⟩ : ∃ y, y = ((y1.setCell ⟨Br, 0, none⟩ (.int .i64 r1)).setCell ⟨Br, 1, none⟩ (.bool r2)) := ⟨_, rfl⟩
        rw [← hy2] at s2 o2
        have qy2 : y2.cell? ⟨X0, 0, none⟩ = some (.pointer po) ∧ y2.cell? ⟨X1, 0, none⟩ = some (.pointer pa') ∧ y2.cell? ⟨X2, 0, none⟩ = some (.pointer pb') ∧ y2.cell? ⟨Y0, 0, none⟩ = some (.pointer pm) ∧ y2.cell? ⟨Y2, 0, none⟩ = some (.pointer pn) ∧ y2.cell? ⟨lb, lo + i, none⟩ = some (.string k) ∧ Hid (Below wL.heap.size wL y2) := ⟨o2.cell qy1.1 (fun e => by simp only at e; omega), o2.cell qy1.2.1 (fun e => by simp only at e; omega), o2.cell qy1.2.2.1 (fun e => by simp only at e; omega), o2.cell qy1.2.2.2.1 (fun e => by simp only at e; omega), o2.cell qy1.2.2.2.2.1 (fun e => by simp only at e; omega), o2.cell qy1.2.2.2.2.2.1 (fun e => by simp only at e; omega), hide (Below.only qy1.2.2.2.2.2.2.out o2 qy1.2.2.2.2.2.2.out.size (fun j e => by omega))⟩
        have t0_2 := (o2.block _ (Array.getElem?_eq_some_iff.1 t0_1).1 (fun e => by omega)).trans t0_1
        have t1_2 := (o2.block _ (Array.getElem?_eq_some_iff.1 s1).1 (fun e => by omega)).trans s1
        refine skip_op (i := 23) (OP := Op.store 38 (Operand.tmp 15) (Operand.tmp 77)) (T := 0) (w' := y2) rfl rfl rfl rfl (by kernel_rfl) (by rfl) (by rw [hy2]; go_simp) ⟨qy2, ?_⟩
        try simp only [Act.put, List.setIfInBounds_toArray, List.set_cons_zero, List.set_cons_succ]
        clear e0 e1 y0' y1' hy2
        refine wpAnyH_done (by kernel_rfl) ?_ _
        have ccp0 : y2.cell? ⟨Bp, 0, none⟩ = some (.int .i64 p1) := (cell_of_row _ _ 0 _ 38 (0, 0) t0_2).trans rfl
        have ccp1 : y2.cell? ⟨Bp, 1, none⟩ = some (.bool p2) := (cell_of_row _ _ 1 _ 38 (0, 0) t0_2).trans rfl
        have ccs0 : y2.cell? ⟨Bs, 0, none⟩ = some (.int .i64 s1') := (cell_of_row _ _ 0 _ 38 (0, 0) t1_2).trans rfl
        have ccs1 : y2.cell? ⟨Bs, 1, none⟩ = some (.bool s2') := (cell_of_row _ _ 1 _ 38 (0, 0) t1_2).trans rfl
        have ccr0 : y2.cell? ⟨Br, 0, none⟩ = some (.int .i64 r1) := (cell_of_row _ _ 0 _ 38 (0, 0) s2).trans rfl
        have ccr1 : y2.cell? ⟨Br, 1, none⟩ = some (.bool r2) := (cell_of_row _ _ 1 _ 38 (0, 0) s2).trans rfl
        clear hbW hlow hdz hHeld qW z0 s0 o0 l0 z1 s1 o1 l1 z2 s2 o2 l2 n01 n02 n12 hlt0 hlt1 hlt2 hlt3 hlt4 hlt5 qy0 qy1 t0_1 t0_2 t1_0 t1_2 t2_0 t2_1 qd
        have q1 : y2.cell? ⟨X0, 0, none⟩ = some (.pointer po) ∧ y2.cell? ⟨X1, 0, none⟩ = some (.pointer pa') ∧ y2.cell? ⟨X2, 0, none⟩ = some (.pointer pb') ∧ y2.cell? ⟨Y0, 0, none⟩ = some (.pointer pm) ∧ y2.cell? ⟨Y2, 0, none⟩ = some (.pointer pn) ∧ y2.cell? ⟨lb, lo + i, none⟩ = some (.string k) ∧ y2.cell? ⟨Bp, 0, none⟩ = some (.int .i64 p1) ∧ y2.cell? ⟨Bp, 1, none⟩ = some (.bool p2) ∧ y2.cell? ⟨Bs, 0, none⟩ = some (.int .i64 s1') ∧ y2.cell? ⟨Bs, 1, none⟩ = some (.bool s2') ∧ y2.cell? ⟨Br, 0, none⟩ = some (.int .i64 r1) ∧ y2.cell? ⟨Br, 1, none⟩ = some (.bool r2) ∧ Hid (Below wL.heap.size wL y2) := ⟨qy2.1, qy2.2.1, qy2.2.2.1, qy2.2.2.2.1, qy2.2.2.2.2.1, qy2.2.2.2.2.2.1, ccp0, ccp1, ccs0, ccs1, ccr0, ccr1, qy2.2.2.2.2.2.2⟩
        clear ccp0 ccp1 ccs0 ccs1 ccr0 ccr1 qy2 hpartp hparts hpartr q0
        go_upto_region 12 with (fail)
        have qd : y2.drew.cell? ⟨X0, 0, none⟩ = some (.pointer po) ∧ y2.drew.cell? ⟨X1, 0, none⟩ = some (.pointer pa') ∧ y2.drew.cell? ⟨X2, 0, none⟩ = some (.pointer pb') ∧ y2.drew.cell? ⟨Y0, 0, none⟩ = some (.pointer pm) ∧ y2.drew.cell? ⟨Y2, 0, none⟩ = some (.pointer pn) ∧ y2.drew.cell? ⟨lb, lo + i, none⟩ = some (.string k) ∧ y2.drew.cell? ⟨Bp, 0, none⟩ = some (.int .i64 p1) ∧ y2.drew.cell? ⟨Bp, 1, none⟩ = some (.bool p2) ∧ y2.drew.cell? ⟨Bs, 0, none⟩ = some (.int .i64 s1') ∧ y2.drew.cell? ⟨Bs, 1, none⟩ = some (.bool s2') ∧ y2.drew.cell? ⟨Br, 0, none⟩ = some (.int .i64 r1) ∧ y2.drew.cell? ⟨Br, 1, none⟩ = some (.bool r2) ∧ Hid (Below wL.heap.size wL y2.drew) := ⟨q1.1, q1.2.1, q1.2.2.1, q1.2.2.2.1, q1.2.2.2.2.1, q1.2.2.2.2.2.1, q1.2.2.2.2.2.2.1, q1.2.2.2.2.2.2.2.1, q1.2.2.2.2.2.2.2.2.1, q1.2.2.2.2.2.2.2.2.2.1, q1.2.2.2.2.2.2.2.2.2.2.1, q1.2.2.2.2.2.2.2.2.2.2.2.1, hide (q1.2.2.2.2.2.2.2.2.2.2.2.2.out.trans ((drew_below y2).mono q1.2.2.2.2.2.2.2.2.2.2.2.2.out.size))⟩
        refine wp_region_held_drew (S := (fun w' => w'.cell? ⟨X0, 0, none⟩ = some (.pointer po) ∧ w'.cell? ⟨X1, 0, none⟩ = some (.pointer pa') ∧ w'.cell? ⟨X2, 0, none⟩ = some (.pointer pb') ∧ w'.cell? ⟨Y0, 0, none⟩ = some (.pointer pm) ∧ w'.cell? ⟨Y2, 0, none⟩ = some (.pointer pn) ∧ w'.cell? ⟨lb, lo + i, none⟩ = some (.string k) ∧ w'.cell? ⟨Bp, 0, none⟩ = some (.int .i64 p1) ∧ w'.cell? ⟨Bp, 1, none⟩ = some (.bool p2) ∧ w'.cell? ⟨Bs, 0, none⟩ = some (.int .i64 s1') ∧ w'.cell? ⟨Bs, 1, none⟩ = some (.bool s2') ∧ w'.cell? ⟨Br, 0, none⟩ = some (.int .i64 r1) ∧ w'.cell? ⟨Br, 1, none⟩ = some (.bool r2) ∧ Hid (Below wL.heap.size wL w'))) (by kernel_rfl) qd (fun hHeld => ?_)
        try dsimp only at hHeld
        refine take_op (i := 0) (d := 79) (OP := Op.load 29 (Operand.tmp 6)) (T := 29) (v := ?vzz16) rfl rfl rfl rfl (by kernel_rfl) (by kernel_rfl) (by kernel_rfl) (fun _ _ _ h => h) (by rfl) ?hzz16 hHeld ?rzz16
        case hzz16 => (intro w' hSw; (try dsimp only at hSw); go_simp <;> with_reducible rfl)
        try simp only [Act.put, List.setIfInBounds_toArray, List.set_cons_zero, List.set_cons_succ]
        refine take_op (i := 1) (d := 80) (OP := Op.move (Operand.tmp 10)) (T := 22) (v := ?vzz17) rfl rfl rfl rfl (by kernel_rfl) (by kernel_rfl) (by kernel_rfl) (fun _ _ _ h => h) (by rfl) ?hzz17 hHeld ?rzz17
        case hzz17 => (intro w' hSw; (try dsimp only at hSw); go_simp <;> with_reducible rfl)
        try simp only [Act.put, List.setIfInBounds_toArray, List.set_cons_zero, List.set_cons_succ]
        refine take_op (i := 2) (d := 81) (OP := Op.move (Operand.tmp 12)) (T := 3) (v := ?vzz18) rfl rfl rfl rfl (by kernel_rfl) (by kernel_rfl) (by kernel_rfl) (fun _ _ _ h => h) (by rfl) ?hzz18 hHeld ?rzz18
        case hzz18 => (intro w' hSw; (try dsimp only at hSw); go_simp <;> with_reducible rfl)
        try simp only [Act.put, List.setIfInBounds_toArray, List.set_cons_zero, List.set_cons_succ]
        refine take_op (i := 3) (d := 82) (OP := Op.indexAddr 22 (Operand.tmp 80) (Operand.tmp 81)) (T := 0) (v := ?vzz19) rfl rfl rfl rfl (by kernel_rfl) (by kernel_rfl) (by kernel_rfl) (fun _ _ _ h => h) (by rfl) ?hzz19 hHeld ?rzz19
        case hzz19 => (intro w' hSw; (try dsimp only at hSw); go_simp <;> with_reducible rfl)
        try simp only [Act.put, List.setIfInBounds_toArray, List.set_cons_zero, List.set_cons_succ]
        refine take_op (i := 4) (d := 83) (OP := Op.load 9 (Operand.tmp 82)) (T := 9) (v := ?vzz20) rfl rfl rfl rfl (by kernel_rfl) (by kernel_rfl) (by kernel_rfl) (fun _ _ _ h => h) (by rfl) ?hzz20 hHeld ?rzz20
        case hzz20 => (intro w' hSw; (try dsimp only at hSw); go_simp <;> with_reducible rfl)
        try simp only [Act.put, List.setIfInBounds_toArray, List.set_cons_zero, List.set_cons_succ]
        refine call_op (i := 5) (d := 84) (OP := Op.call { callee := Callee.value (Operand.func 13), args := #[Operand.tmp 79, Operand.tmp 83], argTypes := #[29, 9] }) (T := 40) (f := 13) (args := #[.agg #[.pointer pm], .string k]) rfl rfl rfl rfl (by kernel_rfl) (by rfl) (by go_simp) ?_
        refine (hgm _ qd.2.2.2.2.2.2.2.2.2.2.2.2.out).mono ?_
        rintro e xa ⟨rfl, bxa⟩
        have qxa : xa.cell? ⟨X0, 0, none⟩ = some (.pointer po) ∧ xa.cell? ⟨X1, 0, none⟩ = some (.pointer pa') ∧ xa.cell? ⟨X2, 0, none⟩ = some (.pointer pb') ∧ xa.cell? ⟨Y0, 0, none⟩ = some (.pointer pm) ∧ xa.cell? ⟨Y2, 0, none⟩ = some (.pointer pn) ∧ xa.cell? ⟨lb, lo + i, none⟩ = some (.string k) ∧ xa.cell? ⟨Bp, 0, none⟩ = some (.int .i64 p1) ∧ xa.cell? ⟨Bp, 1, none⟩ = some (.bool p2) ∧ xa.cell? ⟨Bs, 0, none⟩ = some (.int .i64 s1') ∧ xa.cell? ⟨Bs, 1, none⟩ = some (.bool s2') ∧ xa.cell? ⟨Br, 0, none⟩ = some (.int .i64 r1) ∧ xa.cell? ⟨Br, 1, none⟩ = some (.bool r2) ∧ Hid (Below wL.heap.size wL xa) := ⟨cell_stays qd.1 bxa, cell_stays qd.2.1 bxa, cell_stays qd.2.2.1 bxa, cell_stays qd.2.2.2.1 bxa, cell_stays qd.2.2.2.2.1 bxa, cell_stays qd.2.2.2.2.2.1 bxa, cell_stays qd.2.2.2.2.2.2.1 bxa, cell_stays qd.2.2.2.2.2.2.2.1 bxa, cell_stays qd.2.2.2.2.2.2.2.2.1 bxa, cell_stays qd.2.2.2.2.2.2.2.2.2.1 bxa, cell_stays qd.2.2.2.2.2.2.2.2.2.2.1 bxa, cell_stays qd.2.2.2.2.2.2.2.2.2.2.2.1 bxa, hide (qd.2.2.2.2.2.2.2.2.2.2.2.2.out.trans (bxa.mono qd.2.2.2.2.2.2.2.2.2.2.2.2.out.size))⟩
        refine ⟨_, rfl, qxa, ?_⟩
        replace hHeld := qxa
        try simp only [Act.put, List.setIfInBounds_toArray, List.set_cons_zero, List.set_cons_succ]
        clear bxa
        refine take_op (i := 6) (d := 78) (OP := Op.move (Operand.tmp 84)) (T := 40) (v := ?vzz21) rfl rfl rfl rfl (by kernel_rfl) (by kernel_rfl) (by kernel_rfl) (fun _ _ _ h => h) (by rfl) ?hzz21 hHeld ?rzz21
        case hzz21 => (intro w' hSw; (try dsimp only at hSw); go_simp <;> with_reducible rfl)
        try simp only [Act.put, List.setIfInBounds_toArray, List.set_cons_zero, List.set_cons_succ]
        refine take_op (i := 7) (d := 85) (OP := Op.extract (Operand.tmp 78) 0) (T := 3) (v := ?vzz22) rfl rfl rfl rfl (by kernel_rfl) (by kernel_rfl) (by kernel_rfl) (fun _ _ _ h => h) (by rfl) ?hzz22 hHeld ?rzz22
        case hzz22 => (intro w' hSw; (try dsimp only at hSw); go_simp <;> with_reducible rfl)
        try simp only [Act.put, List.setIfInBounds_toArray, List.set_cons_zero, List.set_cons_succ]
        refine take_op (i := 8) (d := 86) (OP := Op.extract (Operand.tmp 78) 1) (T := 4) (v := ?vzz23) rfl rfl rfl rfl (by kernel_rfl) (by kernel_rfl) (by kernel_rfl) (fun _ _ _ h => h) (by rfl) ?hzz23 hHeld ?rzz23
        case hzz23 => (intro w' hSw; (try dsimp only at hSw); go_simp <;> with_reducible rfl)
        try simp only [Act.put, List.setIfInBounds_toArray, List.set_cons_zero, List.set_cons_succ]
        refine take_op (i := 9) (d := 16) (OP := Op.assign (Operand.tmp 85)) (T := 3) (v := ?vzz24) rfl rfl rfl rfl (by kernel_rfl) (by kernel_rfl) (by kernel_rfl) (fun _ _ _ h => h) (by rfl) ?hzz24 hHeld ?rzz24
        case hzz24 => (intro w' hSw; (try dsimp only at hSw); go_simp <;> with_reducible rfl)
        try simp only [Act.put, List.setIfInBounds_toArray, List.set_cons_zero, List.set_cons_succ]
        refine take_op (i := 10) (d := 17) (OP := Op.assign (Operand.tmp 86)) (T := 4) (v := ?vzz25) rfl rfl rfl rfl (by kernel_rfl) (by kernel_rfl) (by kernel_rfl) (fun _ _ _ h => h) (by rfl) ?hzz25 hHeld ?rzz25
        case hzz25 => (intro w' hSw; (try dsimp only at hSw); go_simp <;> with_reducible rfl)
        try simp only [Act.put, List.setIfInBounds_toArray, List.set_cons_zero, List.set_cons_succ]
        refine wpAnyH_done (by kernel_rfl) ?_ _
        clear hHeld qd q1
        go_upto_region 13 with (fail)
        have qd : xa.drew.cell? ⟨X0, 0, none⟩ = some (.pointer po) ∧ xa.drew.cell? ⟨X1, 0, none⟩ = some (.pointer pa') ∧ xa.drew.cell? ⟨X2, 0, none⟩ = some (.pointer pb') ∧ xa.drew.cell? ⟨Y0, 0, none⟩ = some (.pointer pm) ∧ xa.drew.cell? ⟨Y2, 0, none⟩ = some (.pointer pn) ∧ xa.drew.cell? ⟨lb, lo + i, none⟩ = some (.string k) ∧ xa.drew.cell? ⟨Bp, 0, none⟩ = some (.int .i64 p1) ∧ xa.drew.cell? ⟨Bp, 1, none⟩ = some (.bool p2) ∧ xa.drew.cell? ⟨Bs, 0, none⟩ = some (.int .i64 s1') ∧ xa.drew.cell? ⟨Bs, 1, none⟩ = some (.bool s2') ∧ xa.drew.cell? ⟨Br, 0, none⟩ = some (.int .i64 r1) ∧ xa.drew.cell? ⟨Br, 1, none⟩ = some (.bool r2) ∧ Hid (Below wL.heap.size wL xa.drew) := ⟨qxa.1, qxa.2.1, qxa.2.2.1, qxa.2.2.2.1, qxa.2.2.2.2.1, qxa.2.2.2.2.2.1, qxa.2.2.2.2.2.2.1, qxa.2.2.2.2.2.2.2.1, qxa.2.2.2.2.2.2.2.2.1, qxa.2.2.2.2.2.2.2.2.2.1, qxa.2.2.2.2.2.2.2.2.2.2.1, qxa.2.2.2.2.2.2.2.2.2.2.2.1, hide (qxa.2.2.2.2.2.2.2.2.2.2.2.2.out.trans ((drew_below xa).mono qxa.2.2.2.2.2.2.2.2.2.2.2.2.out.size))⟩
        refine wp_region_held_drew (S := (fun w' => w'.cell? ⟨X0, 0, none⟩ = some (.pointer po) ∧ w'.cell? ⟨X1, 0, none⟩ = some (.pointer pa') ∧ w'.cell? ⟨X2, 0, none⟩ = some (.pointer pb') ∧ w'.cell? ⟨Y0, 0, none⟩ = some (.pointer pm) ∧ w'.cell? ⟨Y2, 0, none⟩ = some (.pointer pn) ∧ w'.cell? ⟨lb, lo + i, none⟩ = some (.string k) ∧ w'.cell? ⟨Bp, 0, none⟩ = some (.int .i64 p1) ∧ w'.cell? ⟨Bp, 1, none⟩ = some (.bool p2) ∧ w'.cell? ⟨Bs, 0, none⟩ = some (.int .i64 s1') ∧ w'.cell? ⟨Bs, 1, none⟩ = some (.bool s2') ∧ w'.cell? ⟨Br, 0, none⟩ = some (.int .i64 r1) ∧ w'.cell? ⟨Br, 1, none⟩ = some (.bool r2) ∧ Hid (Below wL.heap.size wL w'))) (by kernel_rfl) qd (fun hHeld => ?_)
        try dsimp only at hHeld
        refine take_op (i := 0) (d := 88) (OP := Op.load 29 (Operand.tmp 8)) (T := 29) (v := ?vzz26) rfl rfl rfl rfl (by kernel_rfl) (by kernel_rfl) (by kernel_rfl) (fun _ _ _ h => h) (by rfl) ?hzz26 hHeld ?rzz26
        case hzz26 => (intro w' hSw; (try dsimp only at hSw); go_simp <;> with_reducible rfl)
        try simp only [Act.put, List.setIfInBounds_toArray, List.set_cons_zero, List.set_cons_succ]
        refine take_op (i := 1) (d := 89) (OP := Op.move (Operand.tmp 10)) (T := 22) (v := ?vzz27) rfl rfl rfl rfl (by kernel_rfl) (by kernel_rfl) (by kernel_rfl) (fun _ _ _ h => h) (by rfl) ?hzz27 hHeld ?rzz27
        case hzz27 => (intro w' hSw; (try dsimp only at hSw); go_simp <;> with_reducible rfl)
        try simp only [Act.put, List.setIfInBounds_toArray, List.set_cons_zero, List.set_cons_succ]
        refine take_op (i := 2) (d := 90) (OP := Op.move (Operand.tmp 12)) (T := 3) (v := ?vzz28) rfl rfl rfl rfl (by kernel_rfl) (by kernel_rfl) (by kernel_rfl) (fun _ _ _ h => h) (by rfl) ?hzz28 hHeld ?rzz28
        case hzz28 => (intro w' hSw; (try dsimp only at hSw); go_simp <;> with_reducible rfl)
        try simp only [Act.put, List.setIfInBounds_toArray, List.set_cons_zero, List.set_cons_succ]
        refine take_op (i := 3) (d := 91) (OP := Op.indexAddr 22 (Operand.tmp 89) (Operand.tmp 90)) (T := 0) (v := ?vzz29) rfl rfl rfl rfl (by kernel_rfl) (by kernel_rfl) (by kernel_rfl) (fun _ _ _ h => h) (by rfl) ?hzz29 hHeld ?rzz29
        case hzz29 => (intro w' hSw; (try dsimp only at hSw); go_simp <;> with_reducible rfl)
        try simp only [Act.put, List.setIfInBounds_toArray, List.set_cons_zero, List.set_cons_succ]
        refine take_op (i := 4) (d := 92) (OP := Op.load 9 (Operand.tmp 91)) (T := 9) (v := ?vzz30) rfl rfl rfl rfl (by kernel_rfl) (by kernel_rfl) (by kernel_rfl) (fun _ _ _ h => h) (by rfl) ?hzz30 hHeld ?rzz30
        case hzz30 => (intro w' hSw; (try dsimp only at hSw); go_simp <;> with_reducible rfl)
        try simp only [Act.put, List.setIfInBounds_toArray, List.set_cons_zero, List.set_cons_succ]
        refine call_op (i := 5) (d := 93) (OP := Op.call { callee := Callee.value (Operand.func 13), args := #[Operand.tmp 88, Operand.tmp 92], argTypes := #[29, 9] }) (T := 40) (f := 13) (args := #[.agg #[.pointer pn], .string k]) rfl rfl rfl rfl (by kernel_rfl) (by rfl) (by go_simp) ?_
        refine (hgn _ qd.2.2.2.2.2.2.2.2.2.2.2.2.out).mono ?_
        rintro e xb ⟨rfl, bxb⟩
        have qxb : xb.cell? ⟨X0, 0, none⟩ = some (.pointer po) ∧ xb.cell? ⟨X1, 0, none⟩ = some (.pointer pa') ∧ xb.cell? ⟨X2, 0, none⟩ = some (.pointer pb') ∧ xb.cell? ⟨Y0, 0, none⟩ = some (.pointer pm) ∧ xb.cell? ⟨Y2, 0, none⟩ = some (.pointer pn) ∧ xb.cell? ⟨lb, lo + i, none⟩ = some (.string k) ∧ xb.cell? ⟨Bp, 0, none⟩ = some (.int .i64 p1) ∧ xb.cell? ⟨Bp, 1, none⟩ = some (.bool p2) ∧ xb.cell? ⟨Bs, 0, none⟩ = some (.int .i64 s1') ∧ xb.cell? ⟨Bs, 1, none⟩ = some (.bool s2') ∧ xb.cell? ⟨Br, 0, none⟩ = some (.int .i64 r1) ∧ xb.cell? ⟨Br, 1, none⟩ = some (.bool r2) ∧ Hid (Below wL.heap.size wL xb) := ⟨cell_stays qd.1 bxb, cell_stays qd.2.1 bxb, cell_stays qd.2.2.1 bxb, cell_stays qd.2.2.2.1 bxb, cell_stays qd.2.2.2.2.1 bxb, cell_stays qd.2.2.2.2.2.1 bxb, cell_stays qd.2.2.2.2.2.2.1 bxb, cell_stays qd.2.2.2.2.2.2.2.1 bxb, cell_stays qd.2.2.2.2.2.2.2.2.1 bxb, cell_stays qd.2.2.2.2.2.2.2.2.2.1 bxb, cell_stays qd.2.2.2.2.2.2.2.2.2.2.1 bxb, cell_stays qd.2.2.2.2.2.2.2.2.2.2.2.1 bxb, hide (qd.2.2.2.2.2.2.2.2.2.2.2.2.out.trans (bxb.mono qd.2.2.2.2.2.2.2.2.2.2.2.2.out.size))⟩
        refine ⟨_, rfl, qxb, ?_⟩
        replace hHeld := qxb
        try simp only [Act.put, List.setIfInBounds_toArray, List.set_cons_zero, List.set_cons_succ]
        clear bxb
        refine take_op (i := 6) (d := 87) (OP := Op.move (Operand.tmp 93)) (T := 40) (v := ?vzz31) rfl rfl rfl rfl (by kernel_rfl) (by kernel_rfl) (by kernel_rfl) (fun _ _ _ h => h) (by rfl) ?hzz31 hHeld ?rzz31
        case hzz31 => (intro w' hSw; (try dsimp only at hSw); go_simp <;> with_reducible rfl)
        try simp only [Act.put, List.setIfInBounds_toArray, List.set_cons_zero, List.set_cons_succ]
        refine take_op (i := 7) (d := 94) (OP := Op.extract (Operand.tmp 87) 0) (T := 3) (v := ?vzz32) rfl rfl rfl rfl (by kernel_rfl) (by kernel_rfl) (by kernel_rfl) (fun _ _ _ h => h) (by rfl) ?hzz32 hHeld ?rzz32
        case hzz32 => (intro w' hSw; (try dsimp only at hSw); go_simp <;> with_reducible rfl)
        try simp only [Act.put, List.setIfInBounds_toArray, List.set_cons_zero, List.set_cons_succ]
        refine take_op (i := 8) (d := 95) (OP := Op.extract (Operand.tmp 87) 1) (T := 4) (v := ?vzz33) rfl rfl rfl rfl (by kernel_rfl) (by kernel_rfl) (by kernel_rfl) (fun _ _ _ h => h) (by rfl) ?hzz33 hHeld ?rzz33
        case hzz33 => (intro w' hSw; (try dsimp only at hSw); go_simp <;> with_reducible rfl)
        try simp only [Act.put, List.setIfInBounds_toArray, List.set_cons_zero, List.set_cons_succ]
        refine take_op (i := 9) (d := 18) (OP := Op.assign (Operand.tmp 94)) (T := 3) (v := ?vzz34) rfl rfl rfl rfl (by kernel_rfl) (by kernel_rfl) (by kernel_rfl) (fun _ _ _ h => h) (by rfl) ?hzz34 hHeld ?rzz34
        case hzz34 => (intro w' hSw; (try dsimp only at hSw); go_simp <;> with_reducible rfl)
        try simp only [Act.put, List.setIfInBounds_toArray, List.set_cons_zero, List.set_cons_succ]
        refine take_op (i := 10) (d := 19) (OP := Op.assign (Operand.tmp 95)) (T := 4) (v := ?vzz35) rfl rfl rfl rfl (by kernel_rfl) (by kernel_rfl) (by kernel_rfl) (fun _ _ _ h => h) (by rfl) ?hzz35 hHeld ?rzz35
        case hzz35 => (intro w' hSw; (try dsimp only at hSw); go_simp <;> with_reducible rfl)
        try simp only [Act.put, List.setIfInBounds_toArray, List.set_cons_zero, List.set_cons_succ]
        refine wpAnyH_done (by kernel_rfl) ?_ _
        clear hHeld qd qxa
        go_upto_region 14 with (fail)
        have qd : xb.drew.cell? ⟨X0, 0, none⟩ = some (.pointer po) ∧ xb.drew.cell? ⟨X1, 0, none⟩ = some (.pointer pa') ∧ xb.drew.cell? ⟨X2, 0, none⟩ = some (.pointer pb') ∧ xb.drew.cell? ⟨Y0, 0, none⟩ = some (.pointer pm) ∧ xb.drew.cell? ⟨Y2, 0, none⟩ = some (.pointer pn) ∧ xb.drew.cell? ⟨lb, lo + i, none⟩ = some (.string k) ∧ xb.drew.cell? ⟨Bp, 0, none⟩ = some (.int .i64 p1) ∧ xb.drew.cell? ⟨Bp, 1, none⟩ = some (.bool p2) ∧ xb.drew.cell? ⟨Bs, 0, none⟩ = some (.int .i64 s1') ∧ xb.drew.cell? ⟨Bs, 1, none⟩ = some (.bool s2') ∧ xb.drew.cell? ⟨Br, 0, none⟩ = some (.int .i64 r1) ∧ xb.drew.cell? ⟨Br, 1, none⟩ = some (.bool r2) ∧ Hid (Below wL.heap.size wL xb.drew) := ⟨qxb.1, qxb.2.1, qxb.2.2.1, qxb.2.2.2.1, qxb.2.2.2.2.1, qxb.2.2.2.2.2.1, qxb.2.2.2.2.2.2.1, qxb.2.2.2.2.2.2.2.1, qxb.2.2.2.2.2.2.2.2.1, qxb.2.2.2.2.2.2.2.2.2.1, qxb.2.2.2.2.2.2.2.2.2.2.1, qxb.2.2.2.2.2.2.2.2.2.2.2.1, hide (qxb.2.2.2.2.2.2.2.2.2.2.2.2.out.trans ((drew_below xb).mono qxb.2.2.2.2.2.2.2.2.2.2.2.2.out.size))⟩
        refine wp_region_held_drew (S := (fun w' => w'.cell? ⟨X0, 0, none⟩ = some (.pointer po) ∧ w'.cell? ⟨X1, 0, none⟩ = some (.pointer pa') ∧ w'.cell? ⟨X2, 0, none⟩ = some (.pointer pb') ∧ w'.cell? ⟨Y0, 0, none⟩ = some (.pointer pm) ∧ w'.cell? ⟨Y2, 0, none⟩ = some (.pointer pn) ∧ w'.cell? ⟨lb, lo + i, none⟩ = some (.string k) ∧ w'.cell? ⟨Bp, 0, none⟩ = some (.int .i64 p1) ∧ w'.cell? ⟨Bp, 1, none⟩ = some (.bool p2) ∧ w'.cell? ⟨Bs, 0, none⟩ = some (.int .i64 s1') ∧ w'.cell? ⟨Bs, 1, none⟩ = some (.bool s2') ∧ w'.cell? ⟨Br, 0, none⟩ = some (.int .i64 r1) ∧ w'.cell? ⟨Br, 1, none⟩ = some (.bool r2) ∧ Hid (Below wL.heap.size wL w'))) (by kernel_rfl) qd (fun hHeld => ?_)
        try dsimp only at hHeld
        refine take_op (i := 0) (d := 97) (OP := Op.move (Operand.tmp 10)) (T := 22) (v := ?vzz36) rfl rfl rfl rfl (by kernel_rfl) (by kernel_rfl) (by kernel_rfl) (fun _ _ _ h => h) (by rfl) ?hzz36 hHeld ?rzz36
        case hzz36 => (intro w' hSw; (try dsimp only at hSw); go_simp <;> with_reducible rfl)
        try simp only [Act.put, List.setIfInBounds_toArray, List.set_cons_zero, List.set_cons_succ]
        refine take_op (i := 1) (d := 98) (OP := Op.move (Operand.tmp 12)) (T := 3) (v := ?vzz37) rfl rfl rfl rfl (by kernel_rfl) (by kernel_rfl) (by kernel_rfl) (fun _ _ _ h => h) (by rfl) ?hzz37 hHeld ?rzz37
        case hzz37 => (intro w' hSw; (try dsimp only at hSw); go_simp <;> with_reducible rfl)
        try simp only [Act.put, List.setIfInBounds_toArray, List.set_cons_zero, List.set_cons_succ]
        refine take_op (i := 2) (d := 99) (OP := Op.indexAddr 22 (Operand.tmp 97) (Operand.tmp 98)) (T := 0) (v := ?vzz38) rfl rfl rfl rfl (by kernel_rfl) (by kernel_rfl) (by kernel_rfl) (fun _ _ _ h => h) (by rfl) ?hzz38 hHeld ?rzz38
        case hzz38 => (intro w' hSw; (try dsimp only at hSw); go_simp <;> with_reducible rfl)
        try simp only [Act.put, List.setIfInBounds_toArray, List.set_cons_zero, List.set_cons_succ]
        refine take_op (i := 3) (d := 100) (OP := Op.load 9 (Operand.tmp 99)) (T := 9) (v := ?vzz39) rfl rfl rfl rfl (by kernel_rfl) (by kernel_rfl) (by kernel_rfl) (fun _ _ _ h => h) (by rfl) ?hzz39 hHeld ?rzz39
        case hzz39 => (intro w' hSw; (try dsimp only at hSw); go_simp <;> with_reducible rfl)
        try simp only [Act.put, List.setIfInBounds_toArray, List.set_cons_zero, List.set_cons_succ]
        refine take_op (i := 4) (d := 101) (OP := Op.load 38 (Operand.tmp 13)) (T := 38) (v := ?vzz40) rfl rfl rfl rfl (by kernel_rfl) (by kernel_rfl) (by kernel_rfl) (fun _ _ _ h => h) (by rfl) ?hzz40 hHeld ?rzz40
        case hzz40 => (intro w' hSw; (try dsimp only at hSw); go_simp <;> with_reducible rfl)
        try simp only [Act.put, List.setIfInBounds_toArray, List.set_cons_zero, List.set_cons_succ]
        refine take_op (i := 5) (d := 102) (OP := Op.load 38 (Operand.tmp 14)) (T := 38) (v := ?vzz41) rfl rfl rfl rfl (by kernel_rfl) (by kernel_rfl) (by kernel_rfl) (fun _ _ _ h => h) (by rfl) ?hzz41 hHeld ?rzz41
        case hzz41 => (intro w' hSw; (try dsimp only at hSw); go_simp <;> with_reducible rfl)
        try simp only [Act.put, List.setIfInBounds_toArray, List.set_cons_zero, List.set_cons_succ]
        refine take_op (i := 6) (d := 103) (OP := Op.load 38 (Operand.tmp 15)) (T := 38) (v := ?vzz42) rfl rfl rfl rfl (by kernel_rfl) (by kernel_rfl) (by kernel_rfl) (fun _ _ _ h => h) (by rfl) ?hzz42 hHeld ?rzz42
        case hzz42 => (intro w' hSw; (try dsimp only at hSw); go_simp <;> with_reducible rfl)
        try simp only [Act.put, List.setIfInBounds_toArray, List.set_cons_zero, List.set_cons_succ]
        refine call_op (i := 7) (d := 104) (OP := Op.call { callee := Callee.value (Operand.func 14), args := #[Operand.tmp 100, Operand.tmp 101, Operand.tmp 102, Operand.tmp 103], argTypes := #[9, 38, 38, 38] }) (T := 40) (f := 14) (args := #[.string k, .agg #[.int .i64 p1, .bool p2], .agg #[.int .i64 s1', .bool s2'], .agg #[.int .i64 r1, .bool r2]]) rfl rfl rfl rfl (by kernel_rfl) (by rfl) (by go_simp) ?_
        refine (hkp _).mono ?_
        rintro e xc ⟨rfl, bxc⟩
        have qxc : xc.cell? ⟨X0, 0, none⟩ = some (.pointer po) ∧ xc.cell? ⟨X1, 0, none⟩ = some (.pointer pa') ∧ xc.cell? ⟨X2, 0, none⟩ = some (.pointer pb') ∧ xc.cell? ⟨Y0, 0, none⟩ = some (.pointer pm) ∧ xc.cell? ⟨Y2, 0, none⟩ = some (.pointer pn) ∧ xc.cell? ⟨lb, lo + i, none⟩ = some (.string k) ∧ xc.cell? ⟨Bp, 0, none⟩ = some (.int .i64 p1) ∧ xc.cell? ⟨Bp, 1, none⟩ = some (.bool p2) ∧ xc.cell? ⟨Bs, 0, none⟩ = some (.int .i64 s1') ∧ xc.cell? ⟨Bs, 1, none⟩ = some (.bool s2') ∧ xc.cell? ⟨Br, 0, none⟩ = some (.int .i64 r1) ∧ xc.cell? ⟨Br, 1, none⟩ = some (.bool r2) ∧ Hid (Below wL.heap.size wL xc) := ⟨cell_stays qd.1 bxc, cell_stays qd.2.1 bxc, cell_stays qd.2.2.1 bxc, cell_stays qd.2.2.2.1 bxc, cell_stays qd.2.2.2.2.1 bxc, cell_stays qd.2.2.2.2.2.1 bxc, cell_stays qd.2.2.2.2.2.2.1 bxc, cell_stays qd.2.2.2.2.2.2.2.1 bxc, cell_stays qd.2.2.2.2.2.2.2.2.1 bxc, cell_stays qd.2.2.2.2.2.2.2.2.2.1 bxc, cell_stays qd.2.2.2.2.2.2.2.2.2.2.1 bxc, cell_stays qd.2.2.2.2.2.2.2.2.2.2.2.1 bxc, hide (qd.2.2.2.2.2.2.2.2.2.2.2.2.out.trans (bxc.mono qd.2.2.2.2.2.2.2.2.2.2.2.2.out.size))⟩
        refine ⟨_, rfl, qxc, ?_⟩
        replace hHeld := qxc
        try simp only [Act.put, List.setIfInBounds_toArray, List.set_cons_zero, List.set_cons_succ]
        clear bxc
        refine take_op (i := 8) (d := 96) (OP := Op.move (Operand.tmp 104)) (T := 40) (v := ?vzz43) rfl rfl rfl rfl (by kernel_rfl) (by kernel_rfl) (by kernel_rfl) (fun _ _ _ h => h) (by rfl) ?hzz43 hHeld ?rzz43
        case hzz43 => (intro w' hSw; (try dsimp only at hSw); go_simp <;> with_reducible rfl)
        try simp only [Act.put, List.setIfInBounds_toArray, List.set_cons_zero, List.set_cons_succ]
        refine take_op (i := 9) (d := 105) (OP := Op.extract (Operand.tmp 96) 0) (T := 3) (v := ?vzz44) rfl rfl rfl rfl (by kernel_rfl) (by kernel_rfl) (by kernel_rfl) (fun _ _ _ h => h) (by rfl) ?hzz44 hHeld ?rzz44
        case hzz44 => (intro w' hSw; (try dsimp only at hSw); go_simp <;> with_reducible rfl)
        try simp only [Act.put, List.setIfInBounds_toArray, List.set_cons_zero, List.set_cons_succ]
        refine take_op (i := 10) (d := 106) (OP := Op.extract (Operand.tmp 96) 1) (T := 4) (v := ?vzz45) rfl rfl rfl rfl (by kernel_rfl) (by kernel_rfl) (by kernel_rfl) (fun _ _ _ h => h) (by rfl) ?hzz45 hHeld ?rzz45
        case hzz45 => (intro w' hSw; (try dsimp only at hSw); go_simp <;> with_reducible rfl)
        try simp only [Act.put, List.setIfInBounds_toArray, List.set_cons_zero, List.set_cons_succ]
        refine take_op (i := 11) (d := 20) (OP := Op.assign (Operand.tmp 105)) (T := 3) (v := ?vzz46) rfl rfl rfl rfl (by kernel_rfl) (by kernel_rfl) (by kernel_rfl) (fun _ _ _ h => h) (by rfl) ?hzz46 hHeld ?rzz46
        case hzz46 => (intro w' hSw; (try dsimp only at hSw); go_simp <;> with_reducible rfl)
        try simp only [Act.put, List.setIfInBounds_toArray, List.set_cons_zero, List.set_cons_succ]
        refine take_op (i := 12) (d := 21) (OP := Op.assign (Operand.tmp 106)) (T := 4) (v := ?vzz47) rfl rfl rfl rfl (by kernel_rfl) (by kernel_rfl) (by kernel_rfl) (fun _ _ _ h => h) (by rfl) ?hzz47 hHeld ?rzz47
        case hzz47 => (intro w' hSw; (try dsimp only at hSw); go_simp <;> with_reducible rfl)
        try simp only [Act.put, List.setIfInBounds_toArray, List.set_cons_zero, List.set_cons_succ]
        refine wpAnyH_done (by kernel_rfl) ?_ _
        clear qd qxb hgm hgn hkp
        cases Wb
        · have hV0 := hVW.2 rfl
          subst hV0
          clear hVW
          have cB10 := qxc.2.2.2.2.2.2.1
          have cB11 := qxc.2.2.2.2.2.2.2.1
          have cB20 := qxc.2.2.2.2.2.2.2.2.1
          have cB21 := qxc.2.2.2.2.2.2.2.2.2.1
          have cB30 := qxc.2.2.2.2.2.2.2.2.2.2.1
          have cB31 := qxc.2.2.2.2.2.2.2.2.2.2.2.1
          have cK := qxc.2.2.2.2.2.1
          have HBC := qxc.2.2.2.2.2.2.2.2.2.2.2.2
          have hst := hstay xc
          clear qxc hHeld hstay
          go_wp2_with (go_at_call 15; refine hst.mono ?_; rintro e xd ⟨rfl, bxd⟩; have cKd := cell_stays cK bxd; have HBD := hide (HBC.out.trans (bxd.mono HBC.out.size)); clear bxd cK; dsimp only)
          clear cB10 cB11 cB20 cB21 cB30 cB31 hst HBC
          go_loopw [23, 24] (fun v23 v24 wr => ∃ (j : Nat) (f : Bool), j ≤ i ∧ v24 = .int .i64 j ∧ v23 = .bool f ∧ Hid (f = true ↔ k ∉ L.take j) ∧ Hid (Below wL.heap.size wL wr)) (fun _ v24 _ => i - (intOf v24).toNat)
          case atStart => exact ⟨0, true, by omega, rfl, rfl, hide (by simp), HBD⟩
          case round =>
            clear cKd HBD
            obtain ⟨j, f, hj, rfl, rfl, HF, HB2⟩ := hrel
            rename World => wr
            by_cases hji : j < i
            · have y2 : (j : Int) < (i : Int) := by omega
              have y3 : (j : Int) < (N : Int) := by omega
              have y4 : j < N := by omega
              obtain ⟨kj, hkj⟩ : ∃ kj, L[j]? = some kj := ⟨L[j]'(by have := HN.out; omega), List.getElem?_eq_getElem _⟩
              have q0 : wr.cell? ⟨lb, lo + j, none⟩ = some (.string kj) ∧ wr.cell? ⟨lb, lo + i, none⟩ = some (.string k) ∧ Hid (Below wL.heap.size wL wr) := ⟨cell_stays (HLC.out j kj hkj) HB2.out, cell_stays (HLC.out i k HKK.out) HB2.out, HB2⟩
              have HKJ := hide hkj
              clear hkj
              cases f
              · go_upto_region 22 with (fail)
                have qd : wr.drew.cell? ⟨lb, lo + j, none⟩ = some (.string kj) ∧ wr.drew.cell? ⟨lb, lo + i, none⟩ = some (.string k) ∧ Hid (Below wL.heap.size wL wr.drew) := ⟨q0.1, q0.2.1, hide (q0.2.2.out.trans ((drew_below wr).mono q0.2.2.out.size))⟩
                refine wp_region_held_drew (S := (fun w' => w'.cell? ⟨lb, lo + j, none⟩ = some (.string kj) ∧ w'.cell? ⟨lb, lo + i, none⟩ = some (.string k) ∧ Hid (Below wL.heap.size wL w'))) (by kernel_rfl) qd (fun hHeld => ?_)
                try dsimp only at hHeld
                refine take_op (i := 0) (d := 159) (OP := Op.move (Operand.tmp 23)) (T := 4) (v := ?vzz92) rfl rfl rfl rfl (by kernel_rfl) (by kernel_rfl) (by kernel_rfl) (fun _ _ _ h => h) (by rfl) ?hzz92 hHeld ?rzz92
                case hzz92 => (intro w' hSw; (try dsimp only at hSw); go_simp <;> with_reducible rfl)
                try simp only [Act.put, List.setIfInBounds_toArray, List.set_cons_zero, List.set_cons_succ]
                refine take_op (i := 1) (d := 160) (OP := Op.move (Operand.tmp 159)) (T := 4) (v := ?vzz93) rfl rfl rfl rfl (by kernel_rfl) (by kernel_rfl) (by kernel_rfl) (fun _ _ _ h => h) (by rfl) ?hzz93 hHeld ?rzz93
                case hzz93 => (intro w' hSw; (try dsimp only at hSw); go_simp <;> with_reducible rfl)
                try simp only [Act.put, List.setIfInBounds_toArray, List.set_cons_zero, List.set_cons_succ]
                refine pass_op (i := 2) (d := 161) rfl rfl (by kernel_rfl) (by kernel_rfl) (by kernel_rfl) (fun _ _ _ h => h) (by rfl) hHeld ?_
                try simp only [Act.put, List.setIfInBounds_toArray, List.set_cons_zero, List.set_cons_succ]
                refine pass_op (i := 3) (d := 162) rfl rfl (by kernel_rfl) (by kernel_rfl) (by kernel_rfl) (fun _ _ _ h => h) (by rfl) hHeld ?_
                try simp only [Act.put, List.setIfInBounds_toArray, List.set_cons_zero, List.set_cons_succ]
                refine pass_op (i := 4) (d := 163) rfl rfl (by kernel_rfl) (by kernel_rfl) (by kernel_rfl) (fun _ _ _ h => h) (by rfl) hHeld ?_
                try simp only [Act.put, List.setIfInBounds_toArray, List.set_cons_zero, List.set_cons_succ]
                refine pass_op (i := 5) (d := 164) rfl rfl (by kernel_rfl) (by kernel_rfl) (by kernel_rfl) (fun _ _ _ h => h) (by rfl) hHeld ?_
                try simp only [Act.put, List.setIfInBounds_toArray, List.set_cons_zero, List.set_cons_succ]
                refine pass_op (i := 6) (d := 165) rfl rfl (by kernel_rfl) (by kernel_rfl) (by kernel_rfl) (fun _ _ _ h => h) (by rfl) hHeld ?_
                try simp only [Act.put, List.setIfInBounds_toArray, List.set_cons_zero, List.set_cons_succ]
                refine pass_op (i := 7) (d := 166) rfl rfl (by kernel_rfl) (by kernel_rfl) (by kernel_rfl) (fun _ _ _ h => h) (by rfl) hHeld ?_
                try simp only [Act.put, List.setIfInBounds_toArray, List.set_cons_zero, List.set_cons_succ]
                refine pass_op (i := 8) (d := 167) rfl rfl (by kernel_rfl) (by kernel_rfl) (by kernel_rfl) (fun _ _ _ h => h) (by rfl) hHeld ?_
                try simp only [Act.put, List.setIfInBounds_toArray, List.set_cons_zero, List.set_cons_succ]
                refine pass_op (i := 9) (d := 168) rfl rfl (by kernel_rfl) (by kernel_rfl) (by kernel_rfl) (fun _ _ _ h => h) (by rfl) hHeld ?_
                try simp only [Act.put, List.setIfInBounds_toArray, List.set_cons_zero, List.set_cons_succ]
                refine pass_op (i := 10) (d := 169) rfl rfl (by kernel_rfl) (by kernel_rfl) (by kernel_rfl) (fun _ _ _ h => h) (by rfl) hHeld ?_
                try simp only [Act.put, List.setIfInBounds_toArray, List.set_cons_zero, List.set_cons_succ]
                refine take_op (i := 11) (d := 170) (OP := Op.pick (Operand.tmp 160) (Operand.tmp 169) (Operand.const (Value.bool false))) (T := 4) (v := ?vzz94) rfl rfl rfl rfl (by kernel_rfl) (by kernel_rfl) (by kernel_rfl) (fun _ _ _ h => h) (by rfl) ?hzz94 hHeld ?rzz94
                case hzz94 => (intro w' hSw; (try dsimp only at hSw); go_simp <;> with_reducible rfl)
                try simp only [Act.put, List.setIfInBounds_toArray, List.set_cons_zero, List.set_cons_succ]
                refine take_op (i := 12) (d := 23) (OP := Op.assign (Operand.tmp 170)) (T := 4) (v := ?vzz95) rfl rfl rfl rfl (by kernel_rfl) (by kernel_rfl) (by kernel_rfl) (fun _ _ _ h => h) (by rfl) ?hzz95 hHeld ?rzz95
                case hzz95 => (intro w' hSw; (try dsimp only at hSw); go_simp <;> with_reducible rfl)
                try simp only [Act.put, List.setIfInBounds_toArray, List.set_cons_zero, List.set_cons_succ]
                refine wpAnyH_done (by kernel_rfl) ?_ _
                clear hHeld q0
                replace qd := qd.2.2
                go_wp2
                go_roundw
                case rel => exact ⟨j + 1, false, by omega, by go_num, rfl, hide (by have hm : k ∈ L.take j := Classical.byContradiction (fun hn => absurd (HF.out.2 hn) (by decide)); rw [List.take_add_one, HKJ.out]; exact ⟨fun h => absurd h (by decide), fun h => (h (List.mem_append_left _ hm)).elim⟩), qd⟩
                case measure => simp [intOf]; omega
              · by_cases hkk : kj = k
                · subst hkk
                  have hne : (kj.toList == kj.toList) = true := by simp
                  go_upto_region 22 with (fail)
                  have qd : wr.drew.cell? ⟨lb, lo + j, none⟩ = some (.string kj) ∧ wr.drew.cell? ⟨lb, lo + i, none⟩ = some (.string kj) ∧ Hid (Below wL.heap.size wL wr.drew) := ⟨q0.1, q0.2.1, hide (q0.2.2.out.trans ((drew_below wr).mono q0.2.2.out.size))⟩
                  refine wp_region_held_drew (S := (fun w' => w'.cell? ⟨lb, lo + j, none⟩ = some (.string kj) ∧ w'.cell? ⟨lb, lo + i, none⟩ = some (.string kj) ∧ Hid (Below wL.heap.size wL w'))) (by kernel_rfl) qd (fun hHeld => ?_)
                  try dsimp only at hHeld
                  refine take_op (i := 0) (d := 159) (OP := Op.move (Operand.tmp 23)) (T := 4) (v := ?vzz96) rfl rfl rfl rfl (by kernel_rfl) (by kernel_rfl) (by kernel_rfl) (fun _ _ _ h => h) (by rfl) ?hzz96 hHeld ?rzz96
                  case hzz96 => (intro w' hSw; (try dsimp only at hSw); go_simp <;> with_reducible rfl)
                  try simp only [Act.put, List.setIfInBounds_toArray, List.set_cons_zero, List.set_cons_succ]
                  refine take_op (i := 1) (d := 160) (OP := Op.move (Operand.tmp 159)) (T := 4) (v := ?vzz97) rfl rfl rfl rfl (by kernel_rfl) (by kernel_rfl) (by kernel_rfl) (fun _ _ _ h => h) (by rfl) ?hzz97 hHeld ?rzz97
                  case hzz97 => (intro w' hSw; (try dsimp only at hSw); go_simp <;> with_reducible rfl)
                  try simp only [Act.put, List.setIfInBounds_toArray, List.set_cons_zero, List.set_cons_succ]
                  refine take_op (i := 2) (d := 161) (OP := Op.move (Operand.tmp 10)) (T := 22) (v := ?vzz98) rfl rfl rfl rfl (by kernel_rfl) (by kernel_rfl) (by kernel_rfl) (fun _ _ _ h => h) (by rfl) ?hzz98 hHeld ?rzz98
                  case hzz98 => (intro w' hSw; (try dsimp only at hSw); go_simp <;> with_reducible rfl)
                  try simp only [Act.put, List.setIfInBounds_toArray, List.set_cons_zero, List.set_cons_succ]
                  refine take_op (i := 3) (d := 162) (OP := Op.move (Operand.tmp 24)) (T := 3) (v := ?vzz99) rfl rfl rfl rfl (by kernel_rfl) (by kernel_rfl) (by kernel_rfl) (fun _ _ _ h => h) (by rfl) ?hzz99 hHeld ?rzz99
                  case hzz99 => (intro w' hSw; (try dsimp only at hSw); go_simp <;> with_reducible rfl)
                  try simp only [Act.put, List.setIfInBounds_toArray, List.set_cons_zero, List.set_cons_succ]
                  refine take_op (i := 4) (d := 163) (OP := Op.indexAddr 22 (Operand.tmp 161) (Operand.tmp 162)) (T := 0) (v := ?vzz100) rfl rfl rfl rfl (by kernel_rfl) (by kernel_rfl) (by kernel_rfl) (fun _ _ _ h => h) (by rfl) ?hzz100 hHeld ?rzz100
                  case hzz100 => (intro w' hSw; (try dsimp only at hSw); go_simp <;> with_reducible rfl)
                  try simp only [Act.put, List.setIfInBounds_toArray, List.set_cons_zero, List.set_cons_succ]
                  refine take_op (i := 5) (d := 164) (OP := Op.load 9 (Operand.tmp 163)) (T := 9) (v := ?vzz101) rfl rfl rfl rfl (by kernel_rfl) (by kernel_rfl) (by kernel_rfl) (fun _ _ _ h => h) (by rfl) ?hzz101 hHeld ?rzz101
                  case hzz101 => (intro w' hSw; (try dsimp only at hSw); go_simp <;> with_reducible rfl)
                  try simp only [Act.put, List.setIfInBounds_toArray, List.set_cons_zero, List.set_cons_succ]
                  refine take_op (i := 6) (d := 165) (OP := Op.move (Operand.tmp 10)) (T := 22) (v := ?vzz102) rfl rfl rfl rfl (by kernel_rfl) (by kernel_rfl) (by kernel_rfl) (fun _ _ _ h => h) (by rfl) ?hzz102 hHeld ?rzz102
                  case hzz102 => (intro w' hSw; (try dsimp only at hSw); go_simp <;> with_reducible rfl)
                  try simp only [Act.put, List.setIfInBounds_toArray, List.set_cons_zero, List.set_cons_succ]
                  refine take_op (i := 7) (d := 166) (OP := Op.move (Operand.tmp 12)) (T := 3) (v := ?vzz103) rfl rfl rfl rfl (by kernel_rfl) (by kernel_rfl) (by kernel_rfl) (fun _ _ _ h => h) (by rfl) ?hzz103 hHeld ?rzz103
                  case hzz103 => (intro w' hSw; (try dsimp only at hSw); go_simp <;> with_reducible rfl)
                  try simp only [Act.put, List.setIfInBounds_toArray, List.set_cons_zero, List.set_cons_succ]
                  refine take_op (i := 8) (d := 167) (OP := Op.indexAddr 22 (Operand.tmp 165) (Operand.tmp 166)) (T := 0) (v := ?vzz104) rfl rfl rfl rfl (by kernel_rfl) (by kernel_rfl) (by kernel_rfl) (fun _ _ _ h => h) (by rfl) ?hzz104 hHeld ?rzz104
                  case hzz104 => (intro w' hSw; (try dsimp only at hSw); go_simp <;> with_reducible rfl)
                  try simp only [Act.put, List.setIfInBounds_toArray, List.set_cons_zero, List.set_cons_succ]
                  refine take_op (i := 9) (d := 168) (OP := Op.load 9 (Operand.tmp 167)) (T := 9) (v := ?vzz105) rfl rfl rfl rfl (by kernel_rfl) (by kernel_rfl) (by kernel_rfl) (fun _ _ _ h => h) (by rfl) ?hzz105 hHeld ?rzz105
                  case hzz105 => (intro w' hSw; (try dsimp only at hSw); go_simp <;> with_reducible rfl)
                  try simp only [Act.put, List.setIfInBounds_toArray, List.set_cons_zero, List.set_cons_succ]
                  refine take_op (i := 10) (d := 169) (OP := Op.binOp BinOp.neq 9 (Operand.tmp 164) (Operand.tmp 168) 9) (T := 4) (v := ?vzz106) rfl rfl rfl rfl (by kernel_rfl) (by kernel_rfl) (by kernel_rfl) (fun _ _ _ h => h) (by rfl) ?hzz106 hHeld ?rzz106
                  case hzz106 => (intro w' hSw; (try dsimp only at hSw); go_simp <;> with_reducible rfl)
                  try simp only [Act.put, List.setIfInBounds_toArray, List.set_cons_zero, List.set_cons_succ]
                  refine take_op (i := 11) (d := 170) (OP := Op.pick (Operand.tmp 160) (Operand.tmp 169) (Operand.const (Value.bool false))) (T := 4) (v := ?vzz107) rfl rfl rfl rfl (by kernel_rfl) (by kernel_rfl) (by kernel_rfl) (fun _ _ _ h => h) (by rfl) ?hzz107 hHeld ?rzz107
                  case hzz107 => (intro w' hSw; (try dsimp only at hSw); go_simp <;> with_reducible rfl)
                  try simp only [Act.put, List.setIfInBounds_toArray, List.set_cons_zero, List.set_cons_succ]
                  refine take_op (i := 12) (d := 23) (OP := Op.assign (Operand.tmp 170)) (T := 4) (v := ?vzz108) rfl rfl rfl rfl (by kernel_rfl) (by kernel_rfl) (by kernel_rfl) (fun _ _ _ h => h) (by rfl) ?hzz108 hHeld ?rzz108
                  case hzz108 => (intro w' hSw; (try dsimp only at hSw); go_simp <;> with_reducible rfl)
                  try simp only [Act.put, List.setIfInBounds_toArray, List.set_cons_zero, List.set_cons_succ]
                  refine wpAnyH_done (by kernel_rfl) ?_ _
                  clear hHeld q0
                  replace qd := qd.2.2
                  go_wp2
                  go_roundw
                  case rel => exact ⟨j + 1, false, by omega, by go_num, rfl, hide (by rw [List.take_add_one, HKJ.out]; exact ⟨fun h => absurd h (by decide), fun h => (h (by simp)).elim⟩), qd⟩
                  case measure => simp [intOf]; omega
                · have hne : (kj.toList == k.toList) = false := by
                    rw [beq_eq_false_iff_ne]
                    intro e
                    exact hkk (bytes_ext e)
                  go_upto_region 22 with (fail)
                  have qd : wr.drew.cell? ⟨lb, lo + j, none⟩ = some (.string kj) ∧ wr.drew.cell? ⟨lb, lo + i, none⟩ = some (.string k) ∧ Hid (Below wL.heap.size wL wr.drew) := ⟨q0.1, q0.2.1, hide (q0.2.2.out.trans ((drew_below wr).mono q0.2.2.out.size))⟩
                  refine wp_region_held_drew (S := (fun w' => w'.cell? ⟨lb, lo + j, none⟩ = some (.string kj) ∧ w'.cell? ⟨lb, lo + i, none⟩ = some (.string k) ∧ Hid (Below wL.heap.size wL w'))) (by kernel_rfl) qd (fun hHeld => ?_)
                  try dsimp only at hHeld
                  refine take_op (i := 0) (d := 159) (OP := Op.move (Operand.tmp 23)) (T := 4) (v := ?vzz109) rfl rfl rfl rfl (by kernel_rfl) (by kernel_rfl) (by kernel_rfl) (fun _ _ _ h => h) (by rfl) ?hzz109 hHeld ?rzz109
                  case hzz109 => (intro w' hSw; (try dsimp only at hSw); go_simp <;> with_reducible rfl)
                  try simp only [Act.put, List.setIfInBounds_toArray, List.set_cons_zero, List.set_cons_succ]
                  refine take_op (i := 1) (d := 160) (OP := Op.move (Operand.tmp 159)) (T := 4) (v := ?vzz110) rfl rfl rfl rfl (by kernel_rfl) (by kernel_rfl) (by kernel_rfl) (fun _ _ _ h => h) (by rfl) ?hzz110 hHeld ?rzz110
                  case hzz110 => (intro w' hSw; (try dsimp only at hSw); go_simp <;> with_reducible rfl)
                  try simp only [Act.put, List.setIfInBounds_toArray, List.set_cons_zero, List.set_cons_succ]
                  refine take_op (i := 2) (d := 161) (OP := Op.move (Operand.tmp 10)) (T := 22) (v := ?vzz111) rfl rfl rfl rfl (by kernel_rfl) (by kernel_rfl) (by kernel_rfl) (fun _ _ _ h => h) (by rfl) ?hzz111 hHeld ?rzz111
                  case hzz111 => (intro w' hSw; (try dsimp only at hSw); go_simp <;> with_reducible rfl)
                  try simp only [Act.put, List.setIfInBounds_toArray, List.set_cons_zero, List.set_cons_succ]
                  refine take_op (i := 3) (d := 162) (OP := Op.move (Operand.tmp 24)) (T := 3) (v := ?vzz112) rfl rfl rfl rfl (by kernel_rfl) (by kernel_rfl) (by kernel_rfl) (fun _ _ _ h => h) (by rfl) ?hzz112 hHeld ?rzz112
                  case hzz112 => (intro w' hSw; (try dsimp only at hSw); go_simp <;> with_reducible rfl)
                  try simp only [Act.put, List.setIfInBounds_toArray, List.set_cons_zero, List.set_cons_succ]
                  refine take_op (i := 4) (d := 163) (OP := Op.indexAddr 22 (Operand.tmp 161) (Operand.tmp 162)) (T := 0) (v := ?vzz113) rfl rfl rfl rfl (by kernel_rfl) (by kernel_rfl) (by kernel_rfl) (fun _ _ _ h => h) (by rfl) ?hzz113 hHeld ?rzz113
                  case hzz113 => (intro w' hSw; (try dsimp only at hSw); go_simp <;> with_reducible rfl)
                  try simp only [Act.put, List.setIfInBounds_toArray, List.set_cons_zero, List.set_cons_succ]
                  refine take_op (i := 5) (d := 164) (OP := Op.load 9 (Operand.tmp 163)) (T := 9) (v := ?vzz114) rfl rfl rfl rfl (by kernel_rfl) (by kernel_rfl) (by kernel_rfl) (fun _ _ _ h => h) (by rfl) ?hzz114 hHeld ?rzz114
                  case hzz114 => (intro w' hSw; (try dsimp only at hSw); go_simp <;> with_reducible rfl)
                  try simp only [Act.put, List.setIfInBounds_toArray, List.set_cons_zero, List.set_cons_succ]
                  refine take_op (i := 6) (d := 165) (OP := Op.move (Operand.tmp 10)) (T := 22) (v := ?vzz115) rfl rfl rfl rfl (by kernel_rfl) (by kernel_rfl) (by kernel_rfl) (fun _ _ _ h => h) (by rfl) ?hzz115 hHeld ?rzz115
                  case hzz115 => (intro w' hSw; (try dsimp only at hSw); go_simp <;> with_reducible rfl)
                  try simp only [Act.put, List.setIfInBounds_toArray, List.set_cons_zero, List.set_cons_succ]
                  refine take_op (i := 7) (d := 166) (OP := Op.move (Operand.tmp 12)) (T := 3) (v := ?vzz116) rfl rfl rfl rfl (by kernel_rfl) (by kernel_rfl) (by kernel_rfl) (fun _ _ _ h => h) (by rfl) ?hzz116 hHeld ?rzz116
                  case hzz116 => (intro w' hSw; (try dsimp only at hSw); go_simp <;> with_reducible rfl)
                  try simp only [Act.put, List.setIfInBounds_toArray, List.set_cons_zero, List.set_cons_succ]
                  refine take_op (i := 8) (d := 167) (OP := Op.indexAddr 22 (Operand.tmp 165) (Operand.tmp 166)) (T := 0) (v := ?vzz117) rfl rfl rfl rfl (by kernel_rfl) (by kernel_rfl) (by kernel_rfl) (fun _ _ _ h => h) (by rfl) ?hzz117 hHeld ?rzz117
                  case hzz117 => (intro w' hSw; (try dsimp only at hSw); go_simp <;> with_reducible rfl)
                  try simp only [Act.put, List.setIfInBounds_toArray, List.set_cons_zero, List.set_cons_succ]
                  refine take_op (i := 9) (d := 168) (OP := Op.load 9 (Operand.tmp 167)) (T := 9) (v := ?vzz118) rfl rfl rfl rfl (by kernel_rfl) (by kernel_rfl) (by kernel_rfl) (fun _ _ _ h => h) (by rfl) ?hzz118 hHeld ?rzz118
                  case hzz118 => (intro w' hSw; (try dsimp only at hSw); go_simp <;> with_reducible rfl)
                  try simp only [Act.put, List.setIfInBounds_toArray, List.set_cons_zero, List.set_cons_succ]
                  refine take_op (i := 10) (d := 169) (OP := Op.binOp BinOp.neq 9 (Operand.tmp 164) (Operand.tmp 168) 9) (T := 4) (v := ?vzz119) rfl rfl rfl rfl (by kernel_rfl) (by kernel_rfl) (by kernel_rfl) (fun _ _ _ h => h) (by rfl) ?hzz119 hHeld ?rzz119
                  case hzz119 => (intro w' hSw; (try dsimp only at hSw); go_simp <;> with_reducible rfl)
                  try simp only [Act.put, List.setIfInBounds_toArray, List.set_cons_zero, List.set_cons_succ]
                  refine take_op (i := 11) (d := 170) (OP := Op.pick (Operand.tmp 160) (Operand.tmp 169) (Operand.const (Value.bool false))) (T := 4) (v := ?vzz120) rfl rfl rfl rfl (by kernel_rfl) (by kernel_rfl) (by kernel_rfl) (fun _ _ _ h => h) (by rfl) ?hzz120 hHeld ?rzz120
                  case hzz120 => (intro w' hSw; (try dsimp only at hSw); go_simp <;> with_reducible rfl)
                  try simp only [Act.put, List.setIfInBounds_toArray, List.set_cons_zero, List.set_cons_succ]
                  refine take_op (i := 12) (d := 23) (OP := Op.assign (Operand.tmp 170)) (T := 4) (v := ?vzz121) rfl rfl rfl rfl (by kernel_rfl) (by kernel_rfl) (by kernel_rfl) (fun _ _ _ h => h) (by rfl) ?hzz121 hHeld ?rzz121
                  case hzz121 => (intro w' hSw; (try dsimp only at hSw); go_simp <;> with_reducible rfl)
                  try simp only [Act.put, List.setIfInBounds_toArray, List.set_cons_zero, List.set_cons_succ]
                  refine wpAnyH_done (by kernel_rfl) ?_ _
                  clear hHeld q0
                  replace qd := qd.2.2
                  go_wp2
                  go_roundw
                  case rel => exact ⟨j + 1, true, by omega, by go_num, rfl, hide (by have hn := HF.out.1 rfl; rw [List.take_add_one, HKJ.out]; exact ⟨fun _ hm => (List.mem_append.1 hm).elim hn (fun h => hkk (by simp at h; exact h.symm)), fun _ => rfl⟩), qd⟩
                  case measure => simp [intOf]; omega
            · have ej : j = i := by omega
              subst ej
              have y2 : decide ((j : Int) < (j : Int)) = false := by simp
              cases f
              · go_wp2
                go_roundw
                case rel => exact ⟨j + 1, c, by omega, by omega, by go_num, rfl, hide (by rw [List.take_add_one, HKK.out]; exact HCO.out.same (fun h => absurd (HF.out.2 h.2) (by decide))), HB2⟩
                case measure => simp [intOf]; omega
              · go_wp2
                go_roundw
                case rel => exact ⟨j + 1, c, by omega, by omega, by go_num, rfl, hide (by rw [List.take_add_one, HKK.out]; exact HCO.out.same (fun h => by have := HPW.out; rw [h.1] at this; exact absurd this (by decide))), HB2⟩
                case measure => simp [intOf]; omega
        · have hV1 := hVW.1 rfl
          subst hV1
          clear hVW
          have cB10 := qxc.2.2.2.2.2.2.1
          have cB11 := qxc.2.2.2.2.2.2.2.1
          have cB20 := qxc.2.2.2.2.2.2.2.2.1
          have cB21 := qxc.2.2.2.2.2.2.2.2.2.1
          have cB30 := qxc.2.2.2.2.2.2.2.2.2.2.1
          have cB31 := qxc.2.2.2.2.2.2.2.2.2.2.2.1
          have cK := qxc.2.2.2.2.2.1
          have HBC := qxc.2.2.2.2.2.2.2.2.2.2.2.2
          have hst := hstay xc
          clear qxc hHeld hstay
          go_wp2_with (go_at_call 15; refine hst.mono ?_; rintro e xd ⟨rfl, bxd⟩; have cKd := cell_stays cK bxd; have HBD := hide (HBC.out.trans (bxd.mono HBC.out.size)); clear bxd cK; dsimp only)
          clear cB10 cB11 cB20 cB21 cB30 cB31 hst HBC
          go_loopw [23, 24] (fun v23 v24 wr => ∃ (j : Nat) (f : Bool), j ≤ i ∧ v24 = .int .i64 j ∧ v23 = .bool f ∧ Hid (f = true ↔ k ∉ L.take j) ∧ Hid (Below wL.heap.size wL wr)) (fun _ v24 _ => i - (intOf v24).toNat)
          case atStart => exact ⟨0, true, by omega, rfl, rfl, hide (by simp), HBD⟩
          case round =>
            clear cKd HBD
            obtain ⟨j, f, hj, rfl, rfl, HF, HB2⟩ := hrel
            rename World => wr
            by_cases hji : j < i
            · have y2 : (j : Int) < (i : Int) := by omega
              have y3 : (j : Int) < (N : Int) := by omega
              have y4 : j < N := by omega
              obtain ⟨kj, hkj⟩ : ∃ kj, L[j]? = some kj := ⟨L[j]'(by have := HN.out; omega), List.getElem?_eq_getElem _⟩
              have q0 : wr.cell? ⟨lb, lo + j, none⟩ = some (.string kj) ∧ wr.cell? ⟨lb, lo + i, none⟩ = some (.string k) ∧ Hid (Below wL.heap.size wL wr) := ⟨cell_stays (HLC.out j kj hkj) HB2.out, cell_stays (HLC.out i k HKK.out) HB2.out, HB2⟩
              have HKJ := hide hkj
              clear hkj
              cases f
              · go_upto_region 22 with (fail)
                have qd : wr.drew.cell? ⟨lb, lo + j, none⟩ = some (.string kj) ∧ wr.drew.cell? ⟨lb, lo + i, none⟩ = some (.string k) ∧ Hid (Below wL.heap.size wL wr.drew) := ⟨q0.1, q0.2.1, hide (q0.2.2.out.trans ((drew_below wr).mono q0.2.2.out.size))⟩
                refine wp_region_held_drew (S := (fun w' => w'.cell? ⟨lb, lo + j, none⟩ = some (.string kj) ∧ w'.cell? ⟨lb, lo + i, none⟩ = some (.string k) ∧ Hid (Below wL.heap.size wL w'))) (by kernel_rfl) qd (fun hHeld => ?_)
                try dsimp only at hHeld
                refine take_op (i := 0) (d := 159) (OP := Op.move (Operand.tmp 23)) (T := 4) (v := ?vzz122) rfl rfl rfl rfl (by kernel_rfl) (by kernel_rfl) (by kernel_rfl) (fun _ _ _ h => h) (by rfl) ?hzz122 hHeld ?rzz122
                case hzz122 => (intro w' hSw; (try dsimp only at hSw); go_simp <;> with_reducible rfl)
                try simp only [Act.put, List.setIfInBounds_toArray, List.set_cons_zero, List.set_cons_succ]
                refine take_op (i := 1) (d := 160) (OP := Op.move (Operand.tmp 159)) (T := 4) (v := ?vzz123) rfl rfl rfl rfl (by kernel_rfl) (by kernel_rfl) (by kernel_rfl) (fun _ _ _ h => h) (by rfl) ?hzz123 hHeld ?rzz123
                case hzz123 => (intro w' hSw; (try dsimp only at hSw); go_simp <;> with_reducible rfl)
                try simp only [Act.put, List.setIfInBounds_toArray, List.set_cons_zero, List.set_cons_succ]
                refine pass_op (i := 2) (d := 161) rfl rfl (by kernel_rfl) (by kernel_rfl) (by kernel_rfl) (fun _ _ _ h => h) (by rfl) hHeld ?_
                try simp only [Act.put, List.setIfInBounds_toArray, List.set_cons_zero, List.set_cons_succ]
                refine pass_op (i := 3) (d := 162) rfl rfl (by kernel_rfl) (by kernel_rfl) (by kernel_rfl) (fun _ _ _ h => h) (by rfl) hHeld ?_
                try simp only [Act.put, List.setIfInBounds_toArray, List.set_cons_zero, List.set_cons_succ]
                refine pass_op (i := 4) (d := 163) rfl rfl (by kernel_rfl) (by kernel_rfl) (by kernel_rfl) (fun _ _ _ h => h) (by rfl) hHeld ?_
                try simp only [Act.put, List.setIfInBounds_toArray, List.set_cons_zero, List.set_cons_succ]
                refine pass_op (i := 5) (d := 164) rfl rfl (by kernel_rfl) (by kernel_rfl) (by kernel_rfl) (fun _ _ _ h => h) (by rfl) hHeld ?_
                try simp only [Act.put, List.setIfInBounds_toArray, List.set_cons_zero, List.set_cons_succ]
                refine pass_op (i := 6) (d := 165) rfl rfl (by kernel_rfl) (by kernel_rfl) (by kernel_rfl) (fun _ _ _ h => h) (by rfl) hHeld ?_
                try simp only [Act.put, List.setIfInBounds_toArray, List.set_cons_zero, List.set_cons_succ]
                refine pass_op (i := 7) (d := 166) rfl rfl (by kernel_rfl) (by kernel_rfl) (by kernel_rfl) (fun _ _ _ h => h) (by rfl) hHeld ?_
                try simp only [Act.put, List.setIfInBounds_toArray, List.set_cons_zero, List.set_cons_succ]
                refine pass_op (i := 8) (d := 167) rfl rfl (by kernel_rfl) (by kernel_rfl) (by kernel_rfl) (fun _ _ _ h => h) (by rfl) hHeld ?_
                try simp only [Act.put, List.setIfInBounds_toArray, List.set_cons_zero, List.set_cons_succ]
                refine pass_op (i := 9) (d := 168) rfl rfl (by kernel_rfl) (by kernel_rfl) (by kernel_rfl) (fun _ _ _ h => h) (by rfl) hHeld ?_
                try simp only [Act.put, List.setIfInBounds_toArray, List.set_cons_zero, List.set_cons_succ]
                refine pass_op (i := 10) (d := 169) rfl rfl (by kernel_rfl) (by kernel_rfl) (by kernel_rfl) (fun _ _ _ h => h) (by rfl) hHeld ?_
                try simp only [Act.put, List.setIfInBounds_toArray, List.set_cons_zero, List.set_cons_succ]
                refine take_op (i := 11) (d := 170) (OP := Op.pick (Operand.tmp 160) (Operand.tmp 169) (Operand.const (Value.bool false))) (T := 4) (v := ?vzz124) rfl rfl rfl rfl (by kernel_rfl) (by kernel_rfl) (by kernel_rfl) (fun _ _ _ h => h) (by rfl) ?hzz124 hHeld ?rzz124
                case hzz124 => (intro w' hSw; (try dsimp only at hSw); go_simp <;> with_reducible rfl)
                try simp only [Act.put, List.setIfInBounds_toArray, List.set_cons_zero, List.set_cons_succ]
                refine take_op (i := 12) (d := 23) (OP := Op.assign (Operand.tmp 170)) (T := 4) (v := ?vzz125) rfl rfl rfl rfl (by kernel_rfl) (by kernel_rfl) (by kernel_rfl) (fun _ _ _ h => h) (by rfl) ?hzz125 hHeld ?rzz125
                case hzz125 => (intro w' hSw; (try dsimp only at hSw); go_simp <;> with_reducible rfl)
                try simp only [Act.put, List.setIfInBounds_toArray, List.set_cons_zero, List.set_cons_succ]
                refine wpAnyH_done (by kernel_rfl) ?_ _
                clear hHeld q0
                replace qd := qd.2.2
                go_wp2
                go_roundw
                case rel => exact ⟨j + 1, false, by omega, by go_num, rfl, hide (by have hm : k ∈ L.take j := Classical.byContradiction (fun hn => absurd (HF.out.2 hn) (by decide)); rw [List.take_add_one, HKJ.out]; exact ⟨fun h => absurd h (by decide), fun h => (h (List.mem_append_left _ hm)).elim⟩), qd⟩
                case measure => simp [intOf]; omega
              · by_cases hkk : kj = k
                · subst hkk
                  have hne : (kj.toList == kj.toList) = true := by simp
                  go_upto_region 22 with (fail)
                  have qd : wr.drew.cell? ⟨lb, lo + j, none⟩ = some (.string kj) ∧ wr.drew.cell? ⟨lb, lo + i, none⟩ = some (.string kj) ∧ Hid (Below wL.heap.size wL wr.drew) := ⟨q0.1, q0.2.1, hide (q0.2.2.out.trans ((drew_below wr).mono q0.2.2.out.size))⟩
                  refine wp_region_held_drew (S := (fun w' => w'.cell? ⟨lb, lo + j, none⟩ = some (.string kj) ∧ w'.cell? ⟨lb, lo + i, none⟩ = some (.string kj) ∧ Hid (Below wL.heap.size wL w'))) (by kernel_rfl) qd (fun hHeld => ?_)
                  try dsimp only at hHeld
                  refine take_op (i := 0) (d := 159) (OP := Op.move (Operand.tmp 23)) (T := 4) (v := ?vzz126) rfl rfl rfl rfl (by kernel_rfl) (by kernel_rfl) (by kernel_rfl) (fun _ _ _ h => h) (by rfl) ?hzz126 hHeld ?rzz126
                  case hzz126 => (intro w' hSw; (try dsimp only at hSw); go_simp <;> with_reducible rfl)
                  try simp only [Act.put, List.setIfInBounds_toArray, List.set_cons_zero, List.set_cons_succ]
                  refine take_op (i := 1) (d := 160) (OP := Op.move (Operand.tmp 159)) (T := 4) (v := ?vzz127) rfl rfl rfl rfl (by kernel_rfl) (by kernel_rfl) (by kernel_rfl) (fun _ _ _ h => h) (by rfl) ?hzz127 hHeld ?rzz127
                  case hzz127 => (intro w' hSw; (try dsimp only at hSw); go_simp <;> with_reducible rfl)
                  try simp only [Act.put, List.setIfInBounds_toArray, List.set_cons_zero, List.set_cons_succ]
                  refine take_op (i := 2) (d := 161) (OP := Op.move (Operand.tmp 10)) (T := 22) (v := ?vzz128) rfl rfl rfl rfl (by kernel_rfl) (by kernel_rfl) (by kernel_rfl) (fun _ _ _ h => h) (by rfl) ?hzz128 hHeld ?rzz128
                  case hzz128 => (intro w' hSw; (try dsimp only at hSw); go_simp <;> with_reducible rfl)
                  try simp only [Act.put, List.setIfInBounds_toArray, List.set_cons_zero, List.set_cons_succ]
                  refine take_op (i := 3) (d := 162) (OP := Op.move (Operand.tmp 24)) (T := 3) (v := ?vzz129) rfl rfl rfl rfl (by kernel_rfl) (by kernel_rfl) (by kernel_rfl) (fun _ _ _ h => h) (by rfl) ?hzz129 hHeld ?rzz129
                  case hzz129 => (intro w' hSw; (try dsimp only at hSw); go_simp <;> with_reducible rfl)
                  try simp only [Act.put, List.setIfInBounds_toArray, List.set_cons_zero, List.set_cons_succ]
                  refine take_op (i := 4) (d := 163) (OP := Op.indexAddr 22 (Operand.tmp 161) (Operand.tmp 162)) (T := 0) (v := ?vzz130) rfl rfl rfl rfl (by kernel_rfl) (by kernel_rfl) (by kernel_rfl) (fun _ _ _ h => h) (by rfl) ?hzz130 hHeld ?rzz130
                  case hzz130 => (intro w' hSw; (try dsimp only at hSw); go_simp <;> with_reducible rfl)
                  try simp only [Act.put, List.setIfInBounds_toArray, List.set_cons_zero, List.set_cons_succ]
                  refine take_op (i := 5) (d := 164) (OP := Op.load 9 (Operand.tmp 163)) (T := 9) (v := ?vzz131) rfl rfl rfl rfl (by kernel_rfl) (by kernel_rfl) (by kernel_rfl) (fun _ _ _ h => h) (by rfl) ?hzz131 hHeld ?rzz131
                  case hzz131 => (intro w' hSw; (try dsimp only at hSw); go_simp <;> with_reducible rfl)
                  try simp only [Act.put, List.setIfInBounds_toArray, List.set_cons_zero, List.set_cons_succ]
                  refine take_op (i := 6) (d := 165) (OP := Op.move (Operand.tmp 10)) (T := 22) (v := ?vzz132) rfl rfl rfl rfl (by kernel_rfl) (by kernel_rfl) (by kernel_rfl) (fun _ _ _ h => h) (by rfl) ?hzz132 hHeld ?rzz132
                  case hzz132 => (intro w' hSw; (try dsimp only at hSw); go_simp <;> with_reducible rfl)
                  try simp only [Act.put, List.setIfInBounds_toArray, List.set_cons_zero, List.set_cons_succ]
                  refine take_op (i := 7) (d := 166) (OP := Op.move (Operand.tmp 12)) (T := 3) (v := ?vzz133) rfl rfl rfl rfl (by kernel_rfl) (by kernel_rfl) (by kernel_rfl) (fun _ _ _ h => h) (by rfl) ?hzz133 hHeld ?rzz133
                  case hzz133 => (intro w' hSw; (try dsimp only at hSw); go_simp <;> with_reducible rfl)
                  try simp only [Act.put, List.setIfInBounds_toArray, List.set_cons_zero, List.set_cons_succ]
                  refine take_op (i := 8) (d := 167) (OP := Op.indexAddr 22 (Operand.tmp 165) (Operand.tmp 166)) (T := 0) (v := ?vzz134) rfl rfl rfl rfl (by kernel_rfl) (by kernel_rfl) (by kernel_rfl) (fun _ _ _ h => h) (by rfl) ?hzz134 hHeld ?rzz134
                  case hzz134 => (intro w' hSw; (try dsimp only at hSw); go_simp <;> with_reducible rfl)
                  try simp only [Act.put, List.setIfInBounds_toArray, List.set_cons_zero, List.set_cons_succ]
                  refine take_op (i := 9) (d := 168) (OP := Op.load 9 (Operand.tmp 167)) (T := 9) (v := ?vzz135) rfl rfl rfl rfl (by kernel_rfl) (by kernel_rfl) (by kernel_rfl) (fun _ _ _ h => h) (by rfl) ?hzz135 hHeld ?rzz135
                  case hzz135 => (intro w' hSw; (try dsimp only at hSw); go_simp <;> with_reducible rfl)
                  try simp only [Act.put, List.setIfInBounds_toArray, List.set_cons_zero, List.set_cons_succ]
                  refine take_op (i := 10) (d := 169) (OP := Op.binOp BinOp.neq 9 (Operand.tmp 164) (Operand.tmp 168) 9) (T := 4) (v := ?vzz136) rfl rfl rfl rfl (by kernel_rfl) (by kernel_rfl) (by kernel_rfl) (fun _ _ _ h => h) (by rfl) ?hzz136 hHeld ?rzz136
                  case hzz136 => (intro w' hSw; (try dsimp only at hSw); go_simp <;> with_reducible rfl)
                  try simp only [Act.put, List.setIfInBounds_toArray, List.set_cons_zero, List.set_cons_succ]
                  refine take_op (i := 11) (d := 170) (OP := Op.pick (Operand.tmp 160) (Operand.tmp 169) (Operand.const (Value.bool false))) (T := 4) (v := ?vzz137) rfl rfl rfl rfl (by kernel_rfl) (by kernel_rfl) (by kernel_rfl) (fun _ _ _ h => h) (by rfl) ?hzz137 hHeld ?rzz137
                  case hzz137 => (intro w' hSw; (try dsimp only at hSw); go_simp <;> with_reducible rfl)
                  try simp only [Act.put, List.setIfInBounds_toArray, List.set_cons_zero, List.set_cons_succ]
                  refine take_op (i := 12) (d := 23) (OP := Op.assign (Operand.tmp 170)) (T := 4) (v := ?vzz138) rfl rfl rfl rfl (by kernel_rfl) (by kernel_rfl) (by kernel_rfl) (fun _ _ _ h => h) (by rfl) ?hzz138 hHeld ?rzz138
                  case hzz138 => (intro w' hSw; (try dsimp only at hSw); go_simp <;> with_reducible rfl)
                  try simp only [Act.put, List.setIfInBounds_toArray, List.set_cons_zero, List.set_cons_succ]
                  refine wpAnyH_done (by kernel_rfl) ?_ _
                  clear hHeld q0
                  replace qd := qd.2.2
                  go_wp2
                  go_roundw
                  case rel => exact ⟨j + 1, false, by omega, by go_num, rfl, hide (by rw [List.take_add_one, HKJ.out]; exact ⟨fun h => absurd h (by decide), fun h => (h (by simp)).elim⟩), qd⟩
                  case measure => simp [intOf]; omega
                · have hne : (kj.toList == k.toList) = false := by
                    rw [beq_eq_false_iff_ne]
                    intro e
                    exact hkk (bytes_ext e)
                  go_upto_region 22 with (fail)
                  have qd : wr.drew.cell? ⟨lb, lo + j, none⟩ = some (.string kj) ∧ wr.drew.cell? ⟨lb, lo + i, none⟩ = some (.string k) ∧ Hid (Below wL.heap.size wL wr.drew) := ⟨q0.1, q0.2.1, hide (q0.2.2.out.trans ((drew_below wr).mono q0.2.2.out.size))⟩
                  refine wp_region_held_drew (S := (fun w' => w'.cell? ⟨lb, lo + j, none⟩ = some (.string kj) ∧ w'.cell? ⟨lb, lo + i, none⟩ = some (.string k) ∧ Hid (Below wL.heap.size wL w'))) (by kernel_rfl) qd (fun hHeld => ?_)
                  try dsimp only at hHeld
                  refine take_op (i := 0) (d := 159) (OP := Op.move (Operand.tmp 23)) (T := 4) (v := ?vzz139) rfl rfl rfl rfl (by kernel_rfl) (by kernel_rfl) (by kernel_rfl) (fun _ _ _ h => h) (by rfl) ?hzz139 hHeld ?rzz139
                  case hzz139 => (intro w' hSw; (try dsimp only at hSw); go_simp <;> with_reducible rfl)
                  try simp only [Act.put, List.setIfInBounds_toArray, List.set_cons_zero, List.set_cons_succ]
                  refine take_op (i := 1) (d := 160) (OP := Op.move (Operand.tmp 159)) (T := 4) (v := ?vzz140) rfl rfl rfl rfl (by kernel_rfl) (by kernel_rfl) (by kernel_rfl) (fun _ _ _ h => h) (by rfl) ?hzz140 hHeld ?rzz140
                  case hzz140 => (intro w' hSw; (try dsimp only at hSw); go_simp <;> with_reducible rfl)
                  try simp only [Act.put, List.setIfInBounds_toArray, List.set_cons_zero, List.set_cons_succ]
                  refine take_op (i := 2) (d := 161) (OP := Op.move (Operand.tmp 10)) (T := 22) (v := ?vzz141) rfl rfl rfl rfl (by kernel_rfl) (by kernel_rfl) (by kernel_rfl) (fun _ _ _ h => h) (by rfl) ?hzz141 hHeld ?rzz141
                  case hzz141 => (intro w' hSw; (try dsimp only at hSw); go_simp <;> with_reducible rfl)
                  try simp only [Act.put, List.setIfInBounds_toArray, List.set_cons_zero, List.set_cons_succ]
                  refine take_op (i := 3) (d := 162) (OP := Op.move (Operand.tmp 24)) (T := 3) (v := ?vzz142) rfl rfl rfl rfl (by kernel_rfl) (by kernel_rfl) (by kernel_rfl) (fun _ _ _ h => h) (by rfl) ?hzz142 hHeld ?rzz142
                  case hzz142 => (intro w' hSw; (try dsimp only at hSw); go_simp <;> with_reducible rfl)
                  try simp only [Act.put, List.setIfInBounds_toArray, List.set_cons_zero, List.set_cons_succ]
                  refine take_op (i := 4) (d := 163) (OP := Op.indexAddr 22 (Operand.tmp 161) (Operand.tmp 162)) (T := 0) (v := ?vzz143) rfl rfl rfl rfl (by kernel_rfl) (by kernel_rfl) (by kernel_rfl) (fun _ _ _ h => h) (by rfl) ?hzz143 hHeld ?rzz143
                  case hzz143 => (intro w' hSw; (try dsimp only at hSw); go_simp <;> with_reducible rfl)
                  try simp only [Act.put, List.setIfInBounds_toArray, List.set_cons_zero, List.set_cons_succ]
                  refine take_op (i := 5) (d := 164) (OP := Op.load 9 (Operand.tmp 163)) (T := 9) (v := ?vzz144) rfl rfl rfl rfl (by kernel_rfl) (by kernel_rfl) (by kernel_rfl) (fun _ _ _ h => h) (by rfl) ?hzz144 hHeld ?rzz144
                  case hzz144 => (intro w' hSw; (try dsimp only at hSw); go_simp <;> with_reducible rfl)
                  try simp only [Act.put, List.setIfInBounds_toArray, List.set_cons_zero, List.set_cons_succ]
                  refine take_op (i := 6) (d := 165) (OP := Op.move (Operand.tmp 10)) (T := 22) (v := ?vzz145) rfl rfl rfl rfl (by kernel_rfl) (by kernel_rfl) (by kernel_rfl) (fun _ _ _ h => h) (by rfl) ?hzz145 hHeld ?rzz145
                  case hzz145 => (intro w' hSw; (try dsimp only at hSw); go_simp <;> with_reducible rfl)
                  try simp only [Act.put, List.setIfInBounds_toArray, List.set_cons_zero, List.set_cons_succ]
                  refine take_op (i := 7) (d := 166) (OP := Op.move (Operand.tmp 12)) (T := 3) (v := ?vzz146) rfl rfl rfl rfl (by kernel_rfl) (by kernel_rfl) (by kernel_rfl) (fun _ _ _ h => h) (by rfl) ?hzz146 hHeld ?rzz146
                  case hzz146 => (intro w' hSw; (try dsimp only at hSw); go_simp <;> with_reducible rfl)
                  try simp only [Act.put, List.setIfInBounds_toArray, List.set_cons_zero, List.set_cons_succ]
                  refine take_op (i := 8) (d := 167) (OP := Op.indexAddr 22 (Operand.tmp 165) (Operand.tmp 166)) (T := 0) (v := ?vzz147) rfl rfl rfl rfl (by kernel_rfl) (by kernel_rfl) (by kernel_rfl) (fun _ _ _ h => h) (by rfl) ?hzz147 hHeld ?rzz147
                  case hzz147 => (intro w' hSw; (try dsimp only at hSw); go_simp <;> with_reducible rfl)
                  try simp only [Act.put, List.setIfInBounds_toArray, List.set_cons_zero, List.set_cons_succ]
                  refine take_op (i := 9) (d := 168) (OP := Op.load 9 (Operand.tmp 167)) (T := 9) (v := ?vzz148) rfl rfl rfl rfl (by kernel_rfl) (by kernel_rfl) (by kernel_rfl) (fun _ _ _ h => h) (by rfl) ?hzz148 hHeld ?rzz148
                  case hzz148 => (intro w' hSw; (try dsimp only at hSw); go_simp <;> with_reducible rfl)
                  try simp only [Act.put, List.setIfInBounds_toArray, List.set_cons_zero, List.set_cons_succ]
                  refine take_op (i := 10) (d := 169) (OP := Op.binOp BinOp.neq 9 (Operand.tmp 164) (Operand.tmp 168) 9) (T := 4) (v := ?vzz149) rfl rfl rfl rfl (by kernel_rfl) (by kernel_rfl) (by kernel_rfl) (fun _ _ _ h => h) (by rfl) ?hzz149 hHeld ?rzz149
                  case hzz149 => (intro w' hSw; (try dsimp only at hSw); go_simp <;> with_reducible rfl)
                  try simp only [Act.put, List.setIfInBounds_toArray, List.set_cons_zero, List.set_cons_succ]
                  refine take_op (i := 11) (d := 170) (OP := Op.pick (Operand.tmp 160) (Operand.tmp 169) (Operand.const (Value.bool false))) (T := 4) (v := ?vzz150) rfl rfl rfl rfl (by kernel_rfl) (by kernel_rfl) (by kernel_rfl) (fun _ _ _ h => h) (by rfl) ?hzz150 hHeld ?rzz150
                  case hzz150 => (intro w' hSw; (try dsimp only at hSw); go_simp <;> with_reducible rfl)
                  try simp only [Act.put, List.setIfInBounds_toArray, List.set_cons_zero, List.set_cons_succ]
                  refine take_op (i := 12) (d := 23) (OP := Op.assign (Operand.tmp 170)) (T := 4) (v := ?vzz151) rfl rfl rfl rfl (by kernel_rfl) (by kernel_rfl) (by kernel_rfl) (fun _ _ _ h => h) (by rfl) ?hzz151 hHeld ?rzz151
                  case hzz151 => (intro w' hSw; (try dsimp only at hSw); go_simp <;> with_reducible rfl)
                  try simp only [Act.put, List.setIfInBounds_toArray, List.set_cons_zero, List.set_cons_succ]
                  refine wpAnyH_done (by kernel_rfl) ?_ _
                  clear hHeld q0
                  replace qd := qd.2.2
                  go_wp2
                  go_roundw
                  case rel => exact ⟨j + 1, true, by omega, by go_num, rfl, hide (by have hn := HF.out.1 rfl; rw [List.take_add_one, HKJ.out]; exact ⟨fun _ hm => (List.mem_append.1 hm).elim hn (fun h => hkk (by simp at h; exact h.symm)), fun _ => rfl⟩), qd⟩
                  case measure => simp [intOf]; omega
            · have ej : j = i := by omega
              subst ej
              have y2 : decide ((j : Int) < (j : Int)) = false := by simp
              cases f
              · go_wp2
                go_roundw
                case rel => exact ⟨j + 1, c, by omega, by omega, by go_num, rfl, hide (by rw [List.take_add_one, HKK.out]; exact HCO.out.same (fun h => absurd (HF.out.2 h.2) (by decide))), HB2⟩
                case measure => simp [intOf]; omega
              · go_wp2
                go_roundw
                case rel => exact ⟨j + 1, c + 1, by omega, by omega, by go_num, by go_num, hide (by rw [List.take_add_one, HKK.out]; exact HCO.out.more ⟨HPW.out, HF.out.1 rfl⟩), HB2⟩
                case measure => simp [intOf]; omega
      · as_aux_lemma =>
        have ei : i = N := by omega
        subst ei
        have y1 : decide ((i : Int) < (i : Int)) = false := by simp
        have hcount : Counted (fun k => (keeps (look k o.list) (look k a.list) (look k b.list)).2) L c := by have := HCO.out; rw [HN.out, List.take_length] at this; exact this
        obtain ⟨hmc, hnc⟩ := element_counts H6.out.1 HM.out.2.1 HN2.out.2 HLL.out hcount
        have gm : ∀ W, Below wL.heap.size wL W → Calls Try.prog 16 #[.agg #[.pointer pm]] W fun e w' => e = .returned (.int .i64 (c : Nat)) ∧ Below W.heap.size W w' := fun W hW => by
          have := mLen_any m W (In.below hW H6.out.2.1)
          rw [mv_ptr HM.out.1, hmc] at this
          exact this
        have gn : ∀ W, Below wL.heap.size wL W → Calls Try.prog 16 #[.agg #[.pointer pn]] W fun e w' => e = .returned (.int .i64 (c : Nat)) ∧ Below W.heap.size W w' := fun W hW => by
          have := mLen_any n W (In.below hW H6.out.2.2.1)
          rw [mv_ptr HN2.out.1, hnc] at this
          exact this
        have z1 : decide ((0 : Int) ≤ (RL : Int)) = true := by simp
        have z2 : decide ((0 : Int) ≤ (MM : Int)) = true := by simp
        have z4 : MM ≤ c := by have := HM.out.2.2; rw [hmc] at this; exact this
        have z5 : decide (MM ≤ c) = true := by simpa using z4
        have z3 : (MM : Int) ≤ (c : Int) := by omega
        have q0 : wr.cell? ⟨Y0, 0, none⟩ = some (.pointer pm) ∧ wr.cell? ⟨Y2, 0, none⟩ = some (.pointer pn) ∧ wr.cell? ⟨Y1, 0, none⟩ = some (.int .i64 (RL : Nat)) ∧ wr.cell? ⟨Y1, 2, none⟩ = some (.int .i64 (MM : Nat)) ∧ Hid (Below wL.heap.size wL wr) := ⟨cell_stays HCL.out.2.2.2.1 HB.out, cell_stays HCL.out.2.2.2.2.2.2 HB.out, cell_stays HCL.out.2.2.2.2.1 HB.out, cell_stays HCL.out.2.2.2.2.2.1 HB.out, HB⟩
        clear hmc hnc hcount HCO
        go_upto_region 25 with (fail)
        have qd : wr.drew.cell? ⟨Y0, 0, none⟩ = some (.pointer pm) ∧ wr.drew.cell? ⟨Y2, 0, none⟩ = some (.pointer pn) ∧ wr.drew.cell? ⟨Y1, 0, none⟩ = some (.int .i64 (RL : Nat)) ∧ wr.drew.cell? ⟨Y1, 2, none⟩ = some (.int .i64 (MM : Nat)) ∧ Hid (Below wL.heap.size wL wr.drew) := ⟨q0.1, q0.2.1, q0.2.2.1, q0.2.2.2.1, hide (q0.2.2.2.2.out.trans ((drew_below wr).mono q0.2.2.2.2.out.size))⟩
        refine wp_region_held_drew (S := (fun w' => w'.cell? ⟨Y0, 0, none⟩ = some (.pointer pm) ∧ w'.cell? ⟨Y2, 0, none⟩ = some (.pointer pn) ∧ w'.cell? ⟨Y1, 0, none⟩ = some (.int .i64 (RL : Nat)) ∧ w'.cell? ⟨Y1, 2, none⟩ = some (.int .i64 (MM : Nat)) ∧ Hid (Below wL.heap.size wL w'))) (by kernel_rfl) qd (fun hHeld => ?_)
        try dsimp only at hHeld
        refine take_op (i := 0) (d := 177) (OP := Op.load 29 (Operand.tmp 6)) (T := 29) (v := ?vzz65) rfl rfl rfl rfl (by kernel_rfl) (by kernel_rfl) (by kernel_rfl) (fun _ _ _ h => h) (by rfl) ?hzz65 hHeld ?rzz65
        case hzz65 => (intro w' hSw; (try dsimp only at hSw); go_simp <;> with_reducible rfl)
        try simp only [Act.put, List.setIfInBounds_toArray, List.set_cons_zero, List.set_cons_succ]
        refine take_op (i := 2) (d := 179) (OP := Op.move (Operand.tmp 11)) (T := 3) (v := ?vzz66) rfl rfl rfl rfl (by kernel_rfl) (by kernel_rfl) (by kernel_rfl) (fun _ _ _ h => h) (by rfl) ?hzz66 hHeld ?rzz66
        case hzz66 => (intro w' hSw; (try dsimp only at hSw); go_simp <;> with_reducible rfl)
        try simp only [Act.put, List.setIfInBounds_toArray, List.set_cons_zero, List.set_cons_succ]
        refine call_op (i := 1) (d := 178) (OP := Op.call { callee := Callee.value (Operand.func 16), args := #[Operand.tmp 177], argTypes := #[29] }) (T := 3) (f := 16) (args := #[.agg #[.pointer pm]]) rfl rfl rfl rfl (by kernel_rfl) (by rfl) (by go_simp) ?_
        refine (gm _ qd.2.2.2.2.out).mono ?_
        rintro e za ⟨rfl, bza⟩
        have qza : za.cell? ⟨Y0, 0, none⟩ = some (.pointer pm) ∧ za.cell? ⟨Y2, 0, none⟩ = some (.pointer pn) ∧ za.cell? ⟨Y1, 0, none⟩ = some (.int .i64 (RL : Nat)) ∧ za.cell? ⟨Y1, 2, none⟩ = some (.int .i64 (MM : Nat)) ∧ Hid (Below wL.heap.size wL za) := ⟨cell_stays qd.1 bza, cell_stays qd.2.1 bza, cell_stays qd.2.2.1 bza, cell_stays qd.2.2.2.1 bza, hide (qd.2.2.2.2.out.trans (bza.mono qd.2.2.2.2.out.size))⟩
        refine ⟨_, rfl, qza, ?_⟩
        replace hHeld := qza
        try simp only [Act.put, List.setIfInBounds_toArray, List.set_cons_zero, List.set_cons_succ]
        refine take_op (i := 3) (d := 180) (OP := Op.binOp BinOp.eql 3 (Operand.tmp 178) (Operand.tmp 179) 3) (T := 4) (v := ?vzz67) rfl rfl rfl rfl (by kernel_rfl) (by kernel_rfl) (by kernel_rfl) (fun _ _ _ h => h) (by rfl) ?hzz67 hHeld ?rzz67
        case hzz67 => (intro w' hSw; (try dsimp only at hSw); go_simp <;> with_reducible rfl)
        try simp only [Act.put, List.setIfInBounds_toArray, List.set_cons_zero, List.set_cons_succ]
        refine take_op (i := 4) (d := 181) (OP := Op.move (Operand.tmp 180)) (T := 4) (v := ?vzz68) rfl rfl rfl rfl (by kernel_rfl) (by kernel_rfl) (by kernel_rfl) (fun _ _ _ h => h) (by rfl) ?hzz68 hHeld ?rzz68
        case hzz68 => (intro w' hSw; (try dsimp only at hSw); go_simp <;> with_reducible rfl)
        try simp only [Act.put, List.setIfInBounds_toArray, List.set_cons_zero, List.set_cons_succ]
        refine take_op (i := 5) (d := 182) (OP := Op.load 29 (Operand.tmp 8)) (T := 29) (v := ?vzz69) rfl rfl rfl rfl (by kernel_rfl) (by kernel_rfl) (by kernel_rfl) (fun _ _ _ h => h) (by rfl) ?hzz69 hHeld ?rzz69
        case hzz69 => (intro w' hSw; (try dsimp only at hSw); go_simp <;> with_reducible rfl)
        try simp only [Act.put, List.setIfInBounds_toArray, List.set_cons_zero, List.set_cons_succ]
        refine take_op (i := 7) (d := 184) (OP := Op.move (Operand.tmp 11)) (T := 3) (v := ?vzz70) rfl rfl rfl rfl (by kernel_rfl) (by kernel_rfl) (by kernel_rfl) (fun _ _ _ h => h) (by rfl) ?hzz70 hHeld ?rzz70
        case hzz70 => (intro w' hSw; (try dsimp only at hSw); go_simp <;> with_reducible rfl)
        try simp only [Act.put, List.setIfInBounds_toArray, List.set_cons_zero, List.set_cons_succ]
        refine call_op (i := 6) (d := 183) (OP := Op.call { callee := Callee.value (Operand.func 16), args := #[Operand.tmp 182], argTypes := #[29] }) (T := 3) (f := 16) (args := #[.agg #[.pointer pn]]) rfl rfl rfl rfl (by kernel_rfl) (by rfl) (by go_simp) ?_
        refine (gn _ qza.2.2.2.2.out).mono ?_
        rintro e zb ⟨rfl, bzb⟩
        have qzb : zb.cell? ⟨Y0, 0, none⟩ = some (.pointer pm) ∧ zb.cell? ⟨Y2, 0, none⟩ = some (.pointer pn) ∧ zb.cell? ⟨Y1, 0, none⟩ = some (.int .i64 (RL : Nat)) ∧ zb.cell? ⟨Y1, 2, none⟩ = some (.int .i64 (MM : Nat)) ∧ Hid (Below wL.heap.size wL zb) := ⟨cell_stays qza.1 bzb, cell_stays qza.2.1 bzb, cell_stays qza.2.2.1 bzb, cell_stays qza.2.2.2.1 bzb, hide (qza.2.2.2.2.out.trans (bzb.mono qza.2.2.2.2.out.size))⟩
        refine ⟨_, rfl, qzb, ?_⟩
        replace hHeld := qzb
        try simp only [Act.put, List.setIfInBounds_toArray, List.set_cons_zero, List.set_cons_succ]
        refine take_op (i := 8) (d := 185) (OP := Op.binOp BinOp.eql 3 (Operand.tmp 183) (Operand.tmp 184) 3) (T := 4) (v := ?vzz71) rfl rfl rfl rfl (by kernel_rfl) (by kernel_rfl) (by kernel_rfl) (fun _ _ _ h => h) (by rfl) ?hzz71 hHeld ?rzz71
        case hzz71 => (intro w' hSw; (try dsimp only at hSw); go_simp <;> with_reducible rfl)
        try simp only [Act.put, List.setIfInBounds_toArray, List.set_cons_zero, List.set_cons_succ]
        refine take_op (i := 9) (d := 186) (OP := Op.pick (Operand.tmp 181) (Operand.tmp 185) (Operand.const (Value.bool false))) (T := 4) (v := ?vzz72) rfl rfl rfl rfl (by kernel_rfl) (by kernel_rfl) (by kernel_rfl) (fun _ _ _ h => h) (by rfl) ?hzz72 hHeld ?rzz72
        case hzz72 => (intro w' hSw; (try dsimp only at hSw); go_simp <;> with_reducible rfl)
        try simp only [Act.put, List.setIfInBounds_toArray, List.set_cons_zero, List.set_cons_succ]
        refine take_op (i := 10) (d := 187) (OP := Op.move (Operand.tmp 186)) (T := 4) (v := ?vzz73) rfl rfl rfl rfl (by kernel_rfl) (by kernel_rfl) (by kernel_rfl) (fun _ _ _ h => h) (by rfl) ?hzz73 hHeld ?rzz73
        case hzz73 => (intro w' hSw; (try dsimp only at hSw); go_simp <;> with_reducible rfl)
        try simp only [Act.put, List.setIfInBounds_toArray, List.set_cons_zero, List.set_cons_succ]
        refine take_op (i := 11) (d := 188) (OP := Op.fieldAddr 33 (Operand.tmp 7) 0) (T := 0) (v := ?vzz74) rfl rfl rfl rfl (by kernel_rfl) (by kernel_rfl) (by kernel_rfl) (fun _ _ _ h => h) (by rfl) ?hzz74 hHeld ?rzz74
        case hzz74 => (intro w' hSw; (try dsimp only at hSw); go_simp <;> with_reducible rfl)
        try simp only [Act.put, List.setIfInBounds_toArray, List.set_cons_zero, List.set_cons_succ]
        refine take_op (i := 12) (d := 189) (OP := Op.load 3 (Operand.tmp 188)) (T := 3) (v := ?vzz75) rfl rfl rfl rfl (by kernel_rfl) (by kernel_rfl) (by kernel_rfl) (fun _ _ _ h => h) (by rfl) ?hzz75 hHeld ?rzz75
        case hzz75 => (intro w' hSw; (try dsimp only at hSw); go_simp <;> with_reducible rfl)
        try simp only [Act.put, List.setIfInBounds_toArray, List.set_cons_zero, List.set_cons_succ]
        refine take_op (i := 13) (d := 190) (OP := Op.binOp BinOp.geq 3 (Operand.tmp 189) (Operand.const (Value.int IntKind.i64 0)) 3) (T := 4) (v := ?vzz76) rfl rfl rfl rfl (by kernel_rfl) (by kernel_rfl) (by kernel_rfl) (fun _ _ _ h => h) (by rfl) ?hzz76 hHeld ?rzz76
        case hzz76 => (intro w' hSw; (try dsimp only at hSw); go_simp <;> with_reducible rfl)
        try simp only [Act.put, List.setIfInBounds_toArray, List.set_cons_zero, List.set_cons_succ]
        refine take_op (i := 14) (d := 191) (OP := Op.pick (Operand.tmp 187) (Operand.tmp 190) (Operand.const (Value.bool false))) (T := 4) (v := ?vzz77) rfl rfl rfl rfl (by kernel_rfl) (by kernel_rfl) (by kernel_rfl) (fun _ _ _ h => h) (by rfl) ?hzz77 hHeld ?rzz77
        case hzz77 => (intro w' hSw; (try dsimp only at hSw); go_simp <;> with_reducible rfl)
        try simp only [Act.put, List.setIfInBounds_toArray, List.set_cons_zero, List.set_cons_succ]
        refine take_op (i := 15) (d := 192) (OP := Op.move (Operand.tmp 191)) (T := 4) (v := ?vzz78) rfl rfl rfl rfl (by kernel_rfl) (by kernel_rfl) (by kernel_rfl) (fun _ _ _ h => h) (by rfl) ?hzz78 hHeld ?rzz78
        case hzz78 => (intro w' hSw; (try dsimp only at hSw); go_simp <;> with_reducible rfl)
        try simp only [Act.put, List.setIfInBounds_toArray, List.set_cons_zero, List.set_cons_succ]
        refine take_op (i := 16) (d := 193) (OP := Op.fieldAddr 33 (Operand.tmp 7) 2) (T := 0) (v := ?vzz79) rfl rfl rfl rfl (by kernel_rfl) (by kernel_rfl) (by kernel_rfl) (fun _ _ _ h => h) (by rfl) ?hzz79 hHeld ?rzz79
        case hzz79 => (intro w' hSw; (try dsimp only at hSw); go_simp <;> with_reducible rfl)
        try simp only [Act.put, List.setIfInBounds_toArray, List.set_cons_zero, List.set_cons_succ]
        refine take_op (i := 17) (d := 194) (OP := Op.load 3 (Operand.tmp 193)) (T := 3) (v := ?vzz80) rfl rfl rfl rfl (by kernel_rfl) (by kernel_rfl) (by kernel_rfl) (fun _ _ _ h => h) (by rfl) ?hzz80 hHeld ?rzz80
        case hzz80 => (intro w' hSw; (try dsimp only at hSw); go_simp <;> with_reducible rfl)
        try simp only [Act.put, List.setIfInBounds_toArray, List.set_cons_zero, List.set_cons_succ]
        refine take_op (i := 18) (d := 195) (OP := Op.binOp BinOp.geq 3 (Operand.tmp 194) (Operand.const (Value.int IntKind.i64 0)) 3) (T := 4) (v := ?vzz81) rfl rfl rfl rfl (by kernel_rfl) (by kernel_rfl) (by kernel_rfl) (fun _ _ _ h => h) (by rfl) ?hzz81 hHeld ?rzz81
        case hzz81 => (intro w' hSw; (try dsimp only at hSw); go_simp <;> with_reducible rfl)
        try simp only [Act.put, List.setIfInBounds_toArray, List.set_cons_zero, List.set_cons_succ]
        refine take_op (i := 19) (d := 196) (OP := Op.pick (Operand.tmp 192) (Operand.tmp 195) (Operand.const (Value.bool false))) (T := 4) (v := ?vzz82) rfl rfl rfl rfl (by kernel_rfl) (by kernel_rfl) (by kernel_rfl) (fun _ _ _ h => h) (by rfl) ?hzz82 hHeld ?rzz82
        case hzz82 => (intro w' hSw; (try dsimp only at hSw); go_simp <;> with_reducible rfl)
        try simp only [Act.put, List.setIfInBounds_toArray, List.set_cons_zero, List.set_cons_succ]
        refine take_op (i := 20) (d := 197) (OP := Op.move (Operand.tmp 196)) (T := 4) (v := ?vzz83) rfl rfl rfl rfl (by kernel_rfl) (by kernel_rfl) (by kernel_rfl) (fun _ _ _ h => h) (by rfl) ?hzz83 hHeld ?rzz83
        case hzz83 => (intro w' hSw; (try dsimp only at hSw); go_simp <;> with_reducible rfl)
        try simp only [Act.put, List.setIfInBounds_toArray, List.set_cons_zero, List.set_cons_succ]
        refine take_op (i := 21) (d := 198) (OP := Op.fieldAddr 33 (Operand.tmp 7) 2) (T := 0) (v := ?vzz84) rfl rfl rfl rfl (by kernel_rfl) (by kernel_rfl) (by kernel_rfl) (fun _ _ _ h => h) (by rfl) ?hzz84 hHeld ?rzz84
        case hzz84 => (intro w' hSw; (try dsimp only at hSw); go_simp <;> with_reducible rfl)
        try simp only [Act.put, List.setIfInBounds_toArray, List.set_cons_zero, List.set_cons_succ]
        refine take_op (i := 22) (d := 199) (OP := Op.load 3 (Operand.tmp 198)) (T := 3) (v := ?vzz85) rfl rfl rfl rfl (by kernel_rfl) (by kernel_rfl) (by kernel_rfl) (fun _ _ _ h => h) (by rfl) ?hzz85 hHeld ?rzz85
        case hzz85 => (intro w' hSw; (try dsimp only at hSw); go_simp <;> with_reducible rfl)
        try simp only [Act.put, List.setIfInBounds_toArray, List.set_cons_zero, List.set_cons_succ]
        refine take_op (i := 23) (d := 200) (OP := Op.load 29 (Operand.tmp 6)) (T := 29) (v := ?vzz86) rfl rfl rfl rfl (by kernel_rfl) (by kernel_rfl) (by kernel_rfl) (fun _ _ _ h => h) (by rfl) ?hzz86 hHeld ?rzz86
        case hzz86 => (intro w' hSw; (try dsimp only at hSw); go_simp <;> with_reducible rfl)
        try simp only [Act.put, List.setIfInBounds_toArray, List.set_cons_zero, List.set_cons_succ]
        refine call_op (i := 24) (d := 201) (OP := Op.call { callee := Callee.value (Operand.func 16), args := #[Operand.tmp 200], argTypes := #[29] }) (T := 3) (f := 16) (args := #[.agg #[.pointer pm]]) rfl rfl rfl rfl (by kernel_rfl) (by rfl) (by go_simp) ?_
        refine (gm _ qzb.2.2.2.2.out).mono ?_
        rintro e zc ⟨rfl, bzc⟩
        have qzc : zc.cell? ⟨Y0, 0, none⟩ = some (.pointer pm) ∧ zc.cell? ⟨Y2, 0, none⟩ = some (.pointer pn) ∧ zc.cell? ⟨Y1, 0, none⟩ = some (.int .i64 (RL : Nat)) ∧ zc.cell? ⟨Y1, 2, none⟩ = some (.int .i64 (MM : Nat)) ∧ Hid (Below wL.heap.size wL zc) := ⟨cell_stays qzb.1 bzc, cell_stays qzb.2.1 bzc, cell_stays qzb.2.2.1 bzc, cell_stays qzb.2.2.2.1 bzc, hide (qzb.2.2.2.2.out.trans (bzc.mono qzb.2.2.2.2.out.size))⟩
        refine ⟨_, rfl, qzc, ?_⟩
        replace hHeld := qzc
        try simp only [Act.put, List.setIfInBounds_toArray, List.set_cons_zero, List.set_cons_succ]
        refine take_op (i := 25) (d := 202) (OP := Op.binOp BinOp.leq 3 (Operand.tmp 199) (Operand.tmp 201) 3) (T := 4) (v := ?vzz87) rfl rfl rfl rfl (by kernel_rfl) (by kernel_rfl) (by kernel_rfl) (fun _ _ _ h => h) (by rfl) ?hzz87 hHeld ?rzz87
        case hzz87 => (intro w' hSw; (try dsimp only at hSw); go_simp <;> with_reducible rfl)
        try simp only [Act.put, List.setIfInBounds_toArray, List.set_cons_zero, List.set_cons_succ]
        refine take_op (i := 26) (d := 203) (OP := Op.pick (Operand.tmp 197) (Operand.tmp 202) (Operand.const (Value.bool false))) (T := 4) (v := ?vzz88) rfl rfl rfl rfl (by kernel_rfl) (by kernel_rfl) (by kernel_rfl) (fun _ _ _ h => h) (by rfl) ?hzz88 hHeld ?rzz88
        case hzz88 => (intro w' hSw; (try dsimp only at hSw); go_simp <;> with_reducible rfl)
        try simp only [Act.put, List.setIfInBounds_toArray, List.set_cons_zero, List.set_cons_succ]
        refine take_op (i := 27) (d := 204) (OP := Op.move (Operand.tmp 203)) (T := 4) (v := ?vzz89) rfl rfl rfl rfl (by kernel_rfl) (by kernel_rfl) (by kernel_rfl) (fun _ _ _ h => h) (by rfl) ?hzz89 hHeld ?rzz89
        case hzz89 => (intro w' hSw; (try dsimp only at hSw); go_simp <;> with_reducible rfl)
        try simp only [Act.put, List.setIfInBounds_toArray, List.set_cons_zero, List.set_cons_succ]
        refine call_op (i := 28) (d := 205) (OP := Op.call { callee := Callee.value (Operand.func 8), args := #[], argTypes := #[] }) (T := 4) (f := 8) (args := #[]) rfl rfl rfl rfl (by kernel_rfl) (by rfl) (by go_simp) ?_
        refine (HK.out _).mono ?_
        rintro e zd ⟨rfl, bzd⟩
        have qzd : zd.cell? ⟨Y0, 0, none⟩ = some (.pointer pm) ∧ zd.cell? ⟨Y2, 0, none⟩ = some (.pointer pn) ∧ zd.cell? ⟨Y1, 0, none⟩ = some (.int .i64 (RL : Nat)) ∧ zd.cell? ⟨Y1, 2, none⟩ = some (.int .i64 (MM : Nat)) ∧ Hid (Below wL.heap.size wL zd) := ⟨cell_stays qzc.1 bzd, cell_stays qzc.2.1 bzd, cell_stays qzc.2.2.1 bzd, cell_stays qzc.2.2.2.1 bzd, hide (qzc.2.2.2.2.out.trans (bzd.mono qzc.2.2.2.2.out.size))⟩
        refine ⟨_, rfl, qzd, ?_⟩
        replace hHeld := qzd
        try simp only [Act.put, List.setIfInBounds_toArray, List.set_cons_zero, List.set_cons_succ]
        refine take_op (i := 29) (d := 206) (OP := Op.pick (Operand.tmp 204) (Operand.tmp 205) (Operand.const (Value.bool false))) (T := 4) (v := ?vzz90) rfl rfl rfl rfl (by kernel_rfl) (by kernel_rfl) (by kernel_rfl) (fun _ _ _ h => h) (by rfl) ?hzz90 hHeld ?rzz90
        case hzz90 => (intro w' hSw; (try dsimp only at hSw); go_simp <;> with_reducible rfl)
        try simp only [Act.put, List.setIfInBounds_toArray, List.set_cons_zero, List.set_cons_succ]
        refine take_op (i := 30) (d := 2) (OP := Op.assign (Operand.tmp 206)) (T := 4) (v := ?vzz91) rfl rfl rfl rfl (by kernel_rfl) (by kernel_rfl) (by kernel_rfl) (fun _ _ _ h => h) (by rfl) ?hzz91 hHeld ?rzz91
        case hzz91 => (intro w' hSw; (try dsimp only at hSw); go_simp <;> with_reducible rfl)
        try simp only [Act.put, List.setIfInBounds_toArray, List.set_cons_zero, List.set_cons_succ]
        refine wpAnyH_done (by kernel_rfl) ?_ _
        go_wp2
        go_ret
        exact ⟨by simp [z4], H6.out.2.2.2.trans (qzd.2.2.2.2.out.mono H6.out.2.2.2.size)⟩
  · have hf1 := hf.2 hfew
    clear hf hfew
    go_enter Try.func3, Try.ntmps3
    go_wp2_with (first
      | (go_at_call 7; refine hf1.mono ?_; rintro e w1 ⟨rfl, b1⟩; dsimp only)
      | (go_at_call 8; refine (HK.out w1).mono ?_; rintro e w2 ⟨rfl, b2⟩; have S2 := hide (b1.trans (b2.mono b1.size)); clear b2; dsimp only))
    go_ret
    exact ⟨rfl, HT.out.2.1.trans (S2.out.mono HT.out.2.1.size)⟩
end Go.Proofs.Ytckkoigghkgfdaa
