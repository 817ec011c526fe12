/-
  OPS: OpsReads 4, its walk.
  HOW ARGUMENTS COME IN: slices of texts, operations, operations in a row.
-/
import Derived.Test.YtpepgoelnagoaaaGreatDoorMg23
import Derived.Test.YtpepgoelnagoaaaGreatDoorMg24
import Derived.Test.YtpepgoelnagoaaaGreatDoorMg11
import Derived.OpenShut
import Derived.Lib.SmallJoins
import Derived.ShutString
import Derived.ChangeOld
import Derived.Below
import Derived.SliceStrings
import Derived.Deep.Grids
import Derived.ProofKit
import Derived.SizedLaws
namespace Go.Proofs.YtpepgoelnagoaaaGreatDoor
open Go.RowKit Go.Shelf
set_option linter.unusedSimpArgs false
set_option linter.unusedVariables false
attribute [local go_sem] Oper.semAt_some

theorem rlist_len : ∀ (n : Nat) (q : List Int), (rlist n q).1.length ≤ n
  | 0, q => Nat.le_refl _
  | n + 1, q => by
    rw [rlist_succ]
    split
    · have := rlist_len n (ropF q).2.2
      simp
      omega
    · simp
theorem readA_len (l : List Int) : (readA l).1.length ≤ 64 := by
  unfold readA
  split
  · unfold rops
    have h1 := rcount_le (most := 64) (l := l) (by omega)
    have h2 := rcount_nonneg 64 l
    split
    · split
      · have := rlist_len (rcount 64 l).1.toNat (rcount 64 l).2.2
        show (rlist (rcount 64 l).1.toNat (rcount 64 l).2.2).1.length ≤ 64
        omega
      · simp
    · simp
  · simp
theorem readF_plen (l : List Int) : (readF l).1.p.length ≤ 1000000 := by
  unfold readF
  split
  · exact ropF_plen l
  · show (0 : Nat) ≤ _; omega
theorem parseA_len (s : ByteArray) : (parseA s).1.length ≤ 64 := by
  unfold parseA
  split
  · simp
  · split
    · rename_i h; simp; exact h.1
    · simp
theorem str_snoc (l : List Int) : strOfNums (l ++ [119]) = strOfNums l ++ ⟨#[119]⟩ := by
  apply Ki.ba_eq
  unfold strOfNums
  simp [ByteArray.data_append]
theorem rd_one (w : World) (x : Int) : Rd (w.alloc (.cells #[.int .u8 x] 5)) (some ⟨w.heap.size, 0, none⟩) [x] := by
  refine ⟨fun h => (by cases h), fun a ha j u hj => ?_⟩
  simp only [Option.some.injEq] at ha
  subst ha
  rw [u8s_get] at hj
  cases j with
  | zero => simp at hj; subst hj; simp [Addr.add]
  | succ j => simp at hj
theorem sameO_self (o : Od) : sameO o o = true := (sameO_iff o o).2 rfl
theorem sameL_self (l : List Od) : sameL l l = true := (sameL_iff l l).2 rfl
theorem Oq.rq {w : World} {B : Nat} {ao : Option Addr} {n c : Nat} {xs : List Ox} {L : List Od} (h : Oq w B (.slice ao n c) xs) (hL : xs.map Prod.fst = L) : Rq w ao L := by
  obtain ⟨a, c', e, hr, -, -, -⟩ := h.shape
  simp only [Value.slice.injEq] at e
  obtain ⟨rfl, -, -⟩ := e
  rw [← hL]
  exact hr
theorem Oq.plens {w : World} {B : Nat} {v : Value} {xs : List Ox} {L : List Od} (h : Oq w B v xs) (hL : xs.map Prod.fst = L) : ∀ o ∈ L, o.p.length ≤ 1000000 := by
  rw [← hL]
  intro o ho
  obtain ⟨x, hx, rfl⟩ := List.mem_map.1 ho
  exact h.plen x hx
theorem op_keep {W W' : World} {N : Nat} {cs : Array Value} {C : Nat → Prop} (h : W.heap[N]? = some (.cells cs 34 (0, 0))) (ho : Only C W W') (hn : ¬ C N) : W'.heap[N]? = some (.cells cs 34 (0, 0)) :=
  (ho.block N (Array.getElem?_eq_some_iff.1 h).1 hn).trans h

theorem own_two {w : World} {ao : Option Addr} {cap : Nat} {l : List Int} (hr : Rd w ao l) (hnil : ao = none → cap = 0) (hl : l.length ≤ 20000) : ∃ a1 c1 w1 a2 c2 w2,
    (Builtin.append_ #[26, 26] 26 #[.slice none 0 0, .slice ao l.length cap]).run Tryz.prog w = .ok (.slice a1 l.length c1) w1 ∧
    (Builtin.append_ #[26, 26] 26 #[.slice a1 l.length c1, .slice (some ⟨w1.heap.size, 0, none⟩) 1 1]).run Tryz.prog (w1.alloc (.cells #[.int .u8 119] 5)) = .ok (.slice a2 (l.length + 1) c2) w2 ∧
    Own 5 w2 w.heap.size (.slice a2 (l.length + 1) c2) (l ++ [119]) ∧ Below w.heap.size w w2 ∧ l.length + 1 ≤ c2 ∧ (a2 = none → c2 = 0) := by
  obtain ⟨q1, a1, c1, w1, hq1, hr1, O1, n1, b1⟩ := app_let (B := w.heap.size) (Own.nil 5 w w.heap.size) hnil hr (by simp; omega) (Nat.le_refl _)
  have hq1l : q1 = l := by rw [hq1]; rfl
  subst hq1l
  have bal : Below w1.heap.size w1 (w1.alloc (.cells #[.int .u8 119] 5)) := (Below.refl _ w1).alloc (Nat.le_refl _) _
  obtain ⟨q2, a2, c2, w2, hq2, hr2, O2, n2, b2⟩ := app_let (B := w.heap.size) (O1.below bal) (fun h => by cases h) (rd_one w1 119) (by simp; omega) (Nat.le_trans b1.size bal.size)
  have hql : q2.length = q1.length + 1 := by rw [hq2]; simp
  have hc2 := O2.cap.1
  rw [hql] at hr2 O2 hc2
  rw [hq2] at O2
  exact ⟨a1, c1, w1, a2, c2, w2, hr1, hr2, O2, (b1.trans (bal.mono b1.size)).trans b2, hc2, n2⟩

set_option maxHeartbeats 16000000 in
set_option maxRecDepth 100000 in
theorem reads_walk {w : World} {ao : Option Addr} {cap : Nat} (l : List Int) (s : ByteArray) (hr : Rd w ao l) (hnil : ao = none → cap = 0) (hc : l.length ≤ cap) (hm : cap ≤ 9223372036854775807) (h8 : U8 l) (hE : EnvO w) (hEE : EnvE w) :
    Calls Tryz.prog 4 #[.slice ao l.length cap, .string s] w fun e w' => e = .returned (.bool true) ∧ Below w.heap.size w w' := by
  have k9 : ∀ W, Below w.heap.size w W → Calls Tryz.prog 9 #[] W fun e w' => e = .returned (.bool true) ∧ Below W.heap.size W w' := fun W hW => known9_any (hE.below hW)
  by_cases hb1 : 20000 < l.length
  · have z1 : (20000 : Int) < (l.length : Int) := by omega
    have k := k9 w (Below.refl _ _)
    clear k9 hr h8
    go_enter Tryz.func4, Tryz.ntmps4
    go_wp2_with (go_at_call 9; refine k.mono ?_; rintro e wz ⟨rfl, bz⟩; have BZ := hide bz; clear bz k)
    go_ret
    exact ⟨rfl, BZ.out⟩
  by_cases hb2 : 20000 < s.size
  · have z1 : ¬ (20000 : Int) < (l.length : Int) := by omega
    have z2 : (20000 : Int) < (s.size : Int) := by omega
    have k := k9 w (Below.refl _ _)
    clear k9 hr h8
    go_enter Tryz.func4, Tryz.ntmps4
    go_wp2_with (go_at_call 9; refine k.mono ?_; rintro e wz ⟨rfl, bz⟩; have BZ := hide bz; clear bz k)
    go_ret
    exact ⟨rfl, BZ.out⟩
  have z1 : ¬ (20000 : Int) < (l.length : Int) := by omega
  have z2 : ¬ (20000 : Int) < (s.size : Int) := by omega
  have hl2 : l.length ≤ 20000 := by omega
  have hs2 : s.size ≤ 20000 := by omega
  obtain ⟨a1, c1, w1, a2, c2, w2, hr1, hr2, O2, b2, hc2, n2⟩ := own_two hr hnil hl2
  have hsl := fun W => (slice_to (j := l.length) O2.rd (by simp) (by omega) hc2).1 W
  have hrt := (slice_to (j := l.length) O2.rd (by simp) (by omega) hc2).2
  rw [List.take_left] at hrt
  have HO2 := hide (And.intro O2 (And.intro hrt (And.intro b2 (And.intro hc2 n2))))
  have HL := hide (And.intro hl2 hs2)
  have HA := hide (And.intro hr (And.intro hnil (And.intro hc (And.intro hm (And.intro h8 (And.intro hE hEE))))))
  have HK9 := hide k9
  clear O2 b2 hrt hc2 n2 hl2 hs2 hr hnil hc hm h8 hE hEE k9 hb1 hb2
  have HR2 := hide hr2
  clear hr2
  -- the readings, plainly
  obtain ⟨F1, hF1⟩ : ∃ r, r = readF l := ⟨_, rfl⟩
  obtain ⟨F2, hF2⟩ : ∃ r, r = ropF l := ⟨_, rfl⟩
  obtain ⟨LA, hLA⟩ : ∃ r, r = readA l := ⟨_, rfl⟩
  have hp1 := readF_plen l
  have hp2 := ropF_plen l
  have hpA := readA_len l
  rw [← hF1] at hp1
  rw [← hF2] at hp2
  rw [← hLA] at hpA
  have HF := hide (And.intro hF1 (And.intro hF2 (And.intro hLA hpA)))
  clear hF1 hF2 hLA hpA
  obtain ⟨⟨o1p, o1k, o1s, o1d, o1n, o1t⟩, e1⟩ := F1
  obtain ⟨⟨o2p, o2k, o2s, o2d, o2n, o2t⟩, e2, q3⟩ := F2
  obtain ⟨LA, eA⟩ := LA
  dsimp only at hp1 hp2 HF
  have HP := hide (And.intro hp1 hp2)
  clear hp1 hp2
  go_enter Tryz.func4, Tryz.ntmps4
  go_upto_region 4 with (first
    | (at_builtin; refine wpList_turn (OP := .call { callee := .builtin .append, args := #[.const (.slice none 0 0), .tmp 32], argTypes := #[26, 26] }) (T := 26) rfl rfl rfl (exec_append rfl rfl hr1) ?_; clear hr1)
    | (at_builtin; refine wpList_turn (OP := .call { callee := .builtin .append, args := #[.tmp 33, .tmp 34], argTypes := #[26, 26] }) (T := 26) rfl rfl rfl (exec_append rfl rfl HR2.out) ?_; clear HR2))
  have hE2 := HA.out.2.2.2.2.2.1
  have hl47 : l.length ≤ 140737488355328 := by have := HL.out.1; omega
  have h8l := HA.out.2.2.2.2.1
  have HB2 : Hid (Below w.heap.size w w2) := hide HO2.out.2.2.1
  have k23 := read23_any a2 c2 l.length l w2 rfl HO2.out.2.1 HO2.out.2.2.2.2 hl47 h8l (hE2.below HB2.out)
  rw [← HF.out.1] at k23
  dsimp only at k23
  have HE2 := hide (And.intro hE2 (And.intro hl47 h8l))
  clear hE2 hl47 h8l
  go_upto_region 5 with (go_at_call 23; refine k23.mono ?_; rintro e w3 ⟨p1a, p1c, rfl, hos, hb⟩; have H3 := hide (And.intro hos hb); clear hos hb k23)
  obtain ⟨w4, hw4⟩ : ∃ r, r = w3.alloc (.cells (oc6 (.slice p1a o1p.length p1c) o1k o1s o1d o1n o1t) 34) := ⟨_, rfl⟩
  rw [← hw4]
  have D4 : Hid (Below w3.heap.size w3 w4 ∧ w4.heap[w3.heap.size]? = some (.cells (oc6 (.slice p1a o1p.length p1c) o1k o1s o1d o1n o1t) 34 (0, 0)) ∧ w4.heap.size = w3.heap.size + 1) := hide (by rw [hw4]; exact ⟨(Below.refl _ _).alloc (Nat.le_refl _) _, heap_alloc_new _ _, by simp⟩)
  clear hw4
  have HB4 : Hid (Below w.heap.size w w4 ∧ Below w2.heap.size w2 w4) := hide ⟨up (up HB2.out H3.out.2) D4.out.1, up H3.out.2 D4.out.1⟩
  have k24 := readAll24_any a2 c2 l.length l w4 rfl (HO2.out.2.1.below HB4.out.2) HO2.out.2.2.2.2 HE2.out.2.1 HE2.out.2.2 (HE2.out.1.below HB4.out.1)
  rw [← HF.out.2.2.1] at k24
  dsimp only at k24
  go_upto_region 6 with (go_at_call 24; refine k24.mono ?_; rintro e w5 ⟨v8, rfl, ⟨xs1, hx1, hq1⟩, hb⟩; have H5 := hide (And.intro hx1 (And.intro hq1 hb)); clear hx1 hq1 hb k24)
  obtain ⟨a8, c8, hv8, -, -, -, -⟩ := H5.out.2.1.shape
  rw [show xs1.length = LA.length by rw [← H5.out.1]; simp] at hv8
  subst hv8
  have HB5 : Hid (Below w.heap.size w w5 ∧ Below w2.heap.size w2 w5) := hide ⟨up HB4.out.1 H5.out.2.2, up HB4.out.2 H5.out.2.2⟩
  have k24 := readAll24_any a2 c2 l.length l w5 rfl (HO2.out.2.1.below HB5.out.2) HO2.out.2.2.2.2 HE2.out.2.1 HE2.out.2.2 (HE2.out.1.below HB5.out.1)
  rw [← HF.out.2.2.1] at k24
  dsimp only at k24
  go_upto_region 7 with (go_at_call 24; refine k24.mono ?_; rintro e w6 ⟨v10, rfl, ⟨xs2, hx2, hq2⟩, hb⟩; have H6 := hide (And.intro hx2 (And.intro hq2 hb)); clear hx2 hq2 hb k24)
  obtain ⟨a10, c10, hv10, -, -, -, -⟩ := H6.out.2.1.shape
  rw [show xs2.length = LA.length by rw [← H6.out.1]; simp] at hv10
  subst hv10
  have HB6 : Hid (Below w.heap.size w w6 ∧ Below w2.heap.size w2 w6) := hide ⟨up HB5.out.1 H6.out.2.2, up HB5.out.2 H6.out.2.2⟩
  have k25 := open_any a2 c2 l.length l w6 rfl (HO2.out.2.1.below HB6.out.2) HO2.out.2.2.2.2 HE2.out.2.1 HE2.out.2.2
  go_upto_region 8 with (go_at_call 25; refine k25.mono ?_; rintro e w7 ⟨R, rfl, hR, gR, gs, hb⟩; have H7 := hide (And.intro hR (And.intro gR (And.intro gs hb))); clear hR gR gs hb k25)
  have HB7 : Hid (Below w.heap.size w w7 ∧ Below w2.heap.size w2 w7) := hide ⟨up HB6.out.1 H7.out.2.2.2, up HB6.out.2 H7.out.2.2.2⟩
  have cv1 := conv_rd (cap := c2) (n := l.length + 1) (HO2.out.1.rd.below HB7.out.2) (by simp)
  rw [str_snoc] at cv1
  have cv2 := conv_rd (cap := cap) (n := l.length) (HA.out.1.below HB7.out.1) rfl
  have hxn : ¬ 9223372036854775807 < (strOfNums l).size + 1 := by
    have e : (strOfNums l).size = l.length := by rw [Lib.size_eq, strOfNums_data]; simp
    have := HL.out.1
    omega
  generalize strOfNums l = XL at cv1 cv2 hxn
  go_upto_region 10 with fail
  clear cv1 cv2 hxn
  have k26 := take26_any R (R + 1) l w7 H7.out.1 HE2.out.2.1 (by have := H7.out.2.2.1; omega) (HE2.out.1.below HB7.out.1)
  rw [← HF.out.2.1] at k26
  dsimp only at k26
  go_upto_region 11 with (go_at_call 26; go_loud (refine k26.mono ?_; rintro e w8 ⟨p2a, p2c, rfl, hos, hR8, hg8, -⟩; have H8 := hide (And.intro hos (And.intro hR8 (only_grown hg8))); clear hos hR8 hg8 k26))
  obtain ⟨w9, hw9⟩ : ∃ r, r = w8.alloc (.cells (oc6 (.slice p2a o2p.length p2c) o2k o2s o2d o2n o2t) 34) := ⟨_, rfl⟩
  rw [← hw9]
  have D9 : Hid (Below w8.heap.size w8 w9 ∧ w9.heap[w8.heap.size]? = some (.cells (oc6 (.slice p2a o2p.length p2c) o2k o2s o2d o2n o2t) 34 (0, 0)) ∧ w9.heap.size = w8.heap.size + 1) := hide (by rw [hw9]; exact ⟨(Below.refl _ _).alloc (Nat.le_refl _) _, heap_alloc_new _ _, by simp⟩)
  clear hw9
  have HB9 : Hid (Below w.heap.size w w9) := hide (by
    have g1 := HB6.out.1.size
    have g2 := H7.out.2.1
    have g3 := HB7.out.1.size
    exact up (HB7.out.1.trans (H8.out.2.2.below (by omega) (fun j hj => by omega))) D9.out.1)
  go_upto_region 12 with fail
  obtain ⟨w10, hw10⟩ : ∃ r, r = w9.alloc (.cells #[.slice ao l.length cap, .int .i64 0] 56) := ⟨_, rfl⟩
  rw [← hw10]
  have D10 : Hid (Below w9.heap.size w9 w10 ∧ w10.heap[w9.heap.size]? = some (.cells #[.slice ao l.length cap, .int .i64 0] 56 (0, 0)) ∧ w10.heap.size = w9.heap.size + 1) := hide (by rw [hw10]; exact ⟨(Below.refl _ _).alloc (Nat.le_refl _) _, heap_alloc_new _ _, by simp⟩)
  have hd := doc_new (HA.out.1.below HB9.out) HA.out.2.1 HA.out.2.2.1 HA.out.2.2.2.1 (by have := HL.out.1; omega) HA.out.2.2.2.2.1
  rw [← hw10] at hd
  have k27 := dtake_any w9.heap.size l l w10 hd
  rw [dtake_is HE2.out.2.2, ← HF.out.2.1] at k27
  dsimp only at k27
  clear hw10 hd
  go_upto_region 13 with (go_at_call 27; refine k27.mono ?_; rintro e w11 ⟨p3a, p3c, rfl, hos, hD, ho⟩; have H11 := hide (And.intro hos (And.intro hD ho)); clear hos hD ho k27)
  obtain ⟨w12, hw12⟩ : ∃ r, r = w11.alloc (.cells (oc6 (.slice p3a o2p.length p3c) o2k o2s o2d o2n o2t) 34) := ⟨_, rfl⟩
  rw [← hw12]
  have D12 : Hid (Below w11.heap.size w11 w12 ∧ w12.heap[w11.heap.size]? = some (.cells (oc6 (.slice p3a o2p.length p3c) o2k o2s o2d o2n o2t) 34 (0, 0)) ∧ w12.heap.size = w11.heap.size + 1) := hide (by rw [hw12]; exact ⟨(Below.refl _ _).alloc (Nat.le_refl _) _, heap_alloc_new _ _, by simp⟩)
  clear hw12
  have HB12 : Hid (Below w.heap.size w w12) := hide (by
    have g1 := HB9.out.size
    have g2 := D10.out.2.2
    exact up ((up HB9.out D10.out.1).trans (H11.out.2.2.below (by omega) (fun j hj => by omega))) D12.out.1)
  have k28 := dread_any ao cap l w12 (HA.out.1.below HB12.out) HA.out.2.1 HA.out.2.2.1 HA.out.2.2.2.1 (by have := HL.out.1; omega) HE2.out.2.2
  rw [← HF.out.1] at k28
  dsimp only at k28
  go_upto_region 14 with (go_at_call 28; refine k28.mono ?_; rintro e w13 ⟨p4a, p4c, rfl, hos, hb⟩; have H13 := hide (And.intro hos hb); clear hos hb k28)
  obtain ⟨w14, hw14⟩ : ∃ r, r = w13.alloc (.cells (oc6 (.slice p4a o1p.length p4c) o1k o1s o1d o1n o1t) 34) := ⟨_, rfl⟩
  rw [← hw14]
  have D14 : Hid (Below w13.heap.size w13 w14 ∧ w14.heap[w13.heap.size]? = some (.cells (oc6 (.slice p4a o1p.length p4c) o1k o1s o1d o1n o1t) 34 (0, 0)) ∧ w14.heap.size = w13.heap.size + 1) := hide (by rw [hw14]; exact ⟨(Below.refl _ _).alloc (Nat.le_refl _) _, heap_alloc_new _ _, by simp⟩)
  clear hw14
  have HB14 : Hid (Below w.heap.size w w14) := hide (up (up HB12.out H13.out.2) D14.out.1)
  have k29 := dreadAll_any ao cap l w14 (HA.out.1.below HB14.out) HA.out.2.1 HA.out.2.2.1 HA.out.2.2.2.1 (by have := HL.out.1; omega) HE2.out.2.2
  rw [← HF.out.2.2.1] at k29
  dsimp only at k29
  go_upto_region 15 with (go_at_call 29; refine k29.mono ?_; rintro e w15 ⟨v20, rfl, xs3, hx3, hq3, hb⟩; have H15 := hide (And.intro hx3 (And.intro hq3 hb)); clear hx3 hq3 hb k29)
  obtain ⟨a20, c20, hv20, -, -, -, -⟩ := H15.out.2.1.shape
  rw [show xs3.length = LA.length by rw [← H15.out.1]; simp] at hv20
  subst hv20
  have HB15 : Hid (Below w.heap.size w w15) := hide (up HB14.out H15.out.2.2)
  -- what stands at w15
  have HC : Hid (Below w14.heap.size w14 w15 ∧ Below w12.heap.size w12 w15 ∧ Below w11.heap.size w11 w15 ∧ Below w9.heap.size w9 w15 ∧ Below w8.heap.size w8 w15 ∧ Below w6.heap.size w6 w15 ∧ Below w5.heap.size w5 w15 ∧ Below w4.heap.size w4 w15 ∧ R + 1 ≤ w8.heap.size ∧ w5.heap.size ≤ w13.heap.size ∧ w13.heap.size < w14.heap.size) := hide (by
    have b14 := H15.out.2.2
    have b13 := up D14.out.1 b14
    have b12 := up H13.out.2 b13
    have b11 := up D12.out.1 b12
    have g10 := D10.out.2.2
    have s11 := H11.out.2.2.size
    have b10 : Below w9.heap.size w10 w15 := (H11.out.2.2.below (by omega) (fun j hj => by omega)).trans (b11.mono (by omega))
    have b9 : Below w9.heap.size w9 w15 := D10.out.1.trans b10
    have b8 := up D9.out.1 b9
    have g7 := H7.out.2.2.1
    have g6 := H7.out.2.1
    have s8 := H8.out.2.2.size
    have b7 : Below w6.heap.size w7 w15 := (H8.out.2.2.below (by omega) (fun j hj => by omega)).trans (b8.mono (by omega))
    have b6 : Below w6.heap.size w6 w15 := H7.out.2.2.2.trans b7
    have b5 := up H6.out.2.2 b6
    have b4 := up H5.out.2.2 b5
    have q6 := H6.out.2.2.size
    have q9 := D9.out.2.2
    have q12 := D12.out.2.2
    have q13 := H13.out.2.size
    have q14 := D14.out.2.2
    exact ⟨b14, b12, b11, b9, b8, b6, b5, b4, by omega, by omega, by omega⟩)
  trace_state
  have HZ : Hid (∀ W, Below w15.heap.size w15 W → (W.heap[w3.heap.size]? = some (.cells (oc6 (.slice p1a o1p.length p1c) o1k o1s o1d o1n o1t) 34 (0, 0)) ∧ Rs W p1a o1p) ∧ (W.heap[w13.heap.size]? = some (.cells (oc6 (.slice p4a o1p.length p4c) o1k o1s o1d o1n o1t) 34 (0, 0)) ∧ Rs W p4a o1p) ∧
      (W.heap[w8.heap.size]? = some (.cells (oc6 (.slice p2a o2p.length p2c) o2k o2s o2d o2n o2t) 34 (0, 0)) ∧ Rs W p2a o2p) ∧ (W.heap[w11.heap.size]? = some (.cells (oc6 (.slice p3a o2p.length p3c) o2k o2s o2d o2n o2t) 34 (0, 0)) ∧ Rs W p3a o2p) ∧ Rdr (fun _ => True) 77 W R (R + 1) q3 ∧ Doc w9.heap.size W w9.heap.size l q3) := hide (fun W hW => by
    obtain ⟨c14, c12, c11, c9, c8', c6, c5, c4, hRs, -, -⟩ := HC.out
    have e14 := up c14 hW
    have e12 := up c12 hW
    have e11 := up c11 hW
    have e9 := up c9 hW
    have e8 := up c8' hW
    have e4 := up c4 hW
    exact ⟨⟨(e4.block _ (by have := D4.out.2.2; omega)).trans D4.out.2.1, ((H3.out.1.below D4.out.1).below e4).rs'⟩, ⟨(e14.block _ (by have := D14.out.2.2; omega)).trans D14.out.2.1, ((H13.out.1.below D14.out.1).below e14).rs'⟩,
      ⟨(e9.block _ (by have := D9.out.2.2; omega)).trans D9.out.2.1, ((H8.out.1.below D9.out.1).below e9).rs'⟩, ⟨(e12.block _ (by have := D12.out.2.2; omega)).trans D12.out.2.1, ((H11.out.1.below D12.out.1).below e12).rs'⟩, H8.out.2.1.below (e8.mono hRs), H11.out.2.1.kept (grown_of_below (row := none) e11) (by simp)⟩)
  have HQ : Hid (Oq w15 w4.heap.size (.slice a8 LA.length c8) xs1 ∧ Oq w15 w5.heap.size (.slice a10 LA.length c10) xs2 ∧ Oq w15 w14.heap.size (.slice a20 LA.length c20) xs3 ∧ InB w5.heap.size (.slice a8 LA.length c8) xs1) := hide ⟨H5.out.2.1.below HC.out.2.2.2.2.2.2.1, H6.out.2.1.below HC.out.2.2.2.2.2.1, H15.out.2.1, H5.out.2.1.inb⟩
  have k30 : ∀ W, Below w15.heap.size w15 W → Calls Tryz.prog 30 #[odv p1a o1p.length p1c ⟨o1p, o1k, o1s, o1d, o1n, o1t⟩, odv p4a o1p.length p4c ⟨o1p, o1k, o1s, o1d, o1n, o1t⟩] W fun e w' => e = .returned (.bool true) ∧ Below W.heap.size W w' := fun W hW => by
    obtain ⟨⟨-, h1⟩, ⟨-, h2⟩, -⟩ := HZ.out W hW
    have := sameOp_any (pc := p1c) (qc := p4c) ⟨o1p, o1k, o1s, o1d, o1n, o1t⟩ ⟨o1p, o1k, o1s, o1d, o1n, o1t⟩ h1 h2 HP.out.1 HP.out.1
    rw [sameO_self] at this
    exact this
  have k30b : ∀ W, Below w15.heap.size w15 W → Calls Tryz.prog 30 #[odv p2a o2p.length p2c ⟨o2p, o2k, o2s, o2d, o2n, o2t⟩, odv p3a o2p.length p3c ⟨o2p, o2k, o2s, o2d, o2n, o2t⟩] W fun e w' => e = .returned (.bool true) ∧ Below W.heap.size W w' := fun W hW => by
    obtain ⟨-, -, ⟨-, h1⟩, ⟨-, h2⟩, -⟩ := HZ.out W hW
    have := sameOp_any (pc := p2c) (qc := p3c) ⟨o2p, o2k, o2s, o2d, o2n, o2t⟩ ⟨o2p, o2k, o2s, o2d, o2n, o2t⟩ h1 h2 HP.out.2 HP.out.2
    rw [sameO_self] at this
    exact this
  have k20 : ∀ W, Below w15.heap.size w15 W → Calls Tryz.prog 20 #[.slice a8 LA.length c8, .slice a20 LA.length c20] W fun e w' => e = .returned (.bool true) ∧ Below W.heap.size W w' := fun W hW => by
    have := same20_any (c := c8) (d := c20) LA LA ((HQ.out.1.below hW).rq H5.out.1) ((HQ.out.2.2.1.below hW).rq H15.out.1) (by have := HF.out.2.2.2; omega) (HQ.out.1.plens H5.out.1) (HQ.out.2.2.1.plens H15.out.1)
    rw [sameL_self] at this
    exact this
  have K := hide (And.intro k30 (And.intro k30b k20))
  clear k30 k30b k20
  obtain ⟨⟨m6, -⟩, ⟨m18, -⟩, -⟩ := HZ.out w15 (Below.refl _ _)
  obtain ⟨⟨x0, x1, x2, x3, x4, x5⟩, -⟩ := blk6 m6
  obtain ⟨⟨y0, y1, y2, y3, y4, y5⟩, -⟩ := blk6 m18
  clear m6 m18
  go_wp2_with fail
  refine (K.out.1 _ (Below.refl _ _)).mono ?_
  rintro e v1w ⟨rfl, bz1⟩
  have Z1 := hide bz1
  clear bz1 x0 x1 x2 x3 x4 x5 y0 y1 y2 y3 y4 y5
  obtain ⟨-, -, ⟨m13, -⟩, ⟨m16, -⟩, -⟩ := HZ.out v1w Z1.out
  obtain ⟨⟨x0, x1, x2, x3, x4, x5⟩, -⟩ := blk6 m13
  obtain ⟨⟨y0, y1, y2, y3, y4, y5⟩, -⟩ := blk6 m16
  clear m13 m16
  go_wp2_with fail
  refine (num14_any _ _).mono ?_
  rintro e wq ⟨rfl, hq⟩
  have hq := hq.symm
  subst hq
  go_wp2_with fail
  refine (K.out.2.1 _ Z1.out).mono ?_
  rintro e v2w ⟨rfl, bz2⟩
  have Z2 := hide (up Z1.out bz2)
  clear bz2 x0 x1 x2 x3 x4 x5 y0 y1 y2 y3 y4 y5
  go_wp2_with fail
  refine (num14_any _ _).mono ?_
  rintro e wq ⟨rfl, hq⟩
  have hq := hq.symm
  subst hq
  go_wp2_with fail
  refine (left_any R (R + 1) q3 v2w (HZ.out v2w Z2.out).2.2.2.2.1).mono ?_
  rintro e wq ⟨rfl, hq⟩
  subst hq
  go_wp2_with fail
  refine (dleft_any w9.heap.size l q3 v2w (HZ.out v2w Z2.out).2.2.2.2.2).mono ?_
  rintro e v3w ⟨rfl, m3, hz3⟩
  have Z3 : Hid (Below w15.heap.size w15 v3w) := hide (by rw [hz3]; exact Ki.below_drw Z2.out m3)
  clear hz3
  go_wp2_with fail
  refine (K.out.2.2 _ Z3.out).mono ?_
  rintro e v4w ⟨rfl, bz4⟩
  have Z4 := hide (up Z3.out bz4)
  clear bz4
  go_upto_region 17 with (go_at_call 14; refine (num14_any _ _).mono ?_; rintro e wq ⟨rfl, hq⟩; have hq := hq.symm; subst hq)
  have hx1l : xs1.length ≤ 100000 := by
    have h1 : xs1.length = LA.length := by rw [← H5.out.1]; simp
    have := HF.out.2.2.2
    omega
  have k33 := spoil33_any (HQ.out.1.below Z4.out) HQ.out.2.2.2 hx1l
  clear hx1l
  go_wp2_with (go_at_call 33; refine k33.mono ?_; rintro e wS ⟨rfl, hoS⟩; have HS := hide hoS; clear hoS k33)
  obtain ⟨m, hm⟩ : ∃ r, r = l.length + 1 := ⟨_, rfl⟩
  have HM := hide hm
  have hmb : m ≤ 20001 := by have := HL.out.1; omega
  rw [← hm] at HO2 ⊢
  clear hm hsl
  have hown : Own 5 wS w.heap.size (.slice a2 m c2) (l ++ [119]) := HS.out.own (((HO2.out.1.below HB4.out.2).below HC.out.2.2.2.2.2.2.2.1).below Z4.out) (fun k hk hd => by
    have h1 := (own_new HO2.out.1 k hk).2
    have h2 := HB4.out.2.size
    omega)
  have HOW := hide hown
  clear hown
  go_loopw [22] (fun v22 wr => ∃ (k : Nat) (L' : List Int), v22 = .int .i64 (k : Nat) ∧ k ≤ m ∧ Hid (L'.length = m) ∧ Hid (Own 5 wr w.heap.size (.slice a2 m c2) L') ∧ Hid (Only (fun j => w.heap.size ≤ j ∧ j < w2.heap.size) wS wr)) (fun v22 _ => m - (intOf v22).toNat)
  case atStart => exact ⟨0, l ++ [119], rfl, Nat.zero_le _, hide (by rw [HM.out]; simp), HOW, hide (Only.refl _ _)⟩
  case round =>
    obtain ⟨k, L', rfl, hkm, hL', HW', HON⟩ := hrel
    by_cases hlt : k < m
    · have z : (k : Int) < (m : Int) := by omega
      obtain ⟨g, hg, s0, s1, hg1, hg2, hst⟩ := HW'.out.store (k := k) (by rw [hL'.out]; exact hlt)
      have hgb : g < w2.heap.size := (own_new HO2.out.1 g (by rw [hg]; rfl)).2
      obtain ⟨h1, h2⟩ := hst 102
      have HN := hide (And.intro h1 (HON.out.trans (only_grown h2) (fun j _ e => by subst e; exact ⟨hg1, hgb⟩)))
      clear h1 h2 hst hgb hg1 hg2
      subst hg
      go_wp2
      go_roundw
      case rel => exact ⟨k + 1, L'.set k 102, by go_num, by omega, hide (by rw [List.length_set]; exact hL'.out), hide HN.out.1, hide HN.out.2⟩
      case measure => simp [intOf]; omega
    · have k20 : Calls Tryz.prog 20 #[.slice a10 LA.length c10, .slice a20 LA.length c20] wr fun e w' => e = .returned (.bool true) ∧ Below wr.heap.size wr w' := by
        have g1 := HC.out.2.2.2.2.2.2.2.2.2
        have g2 := HB5.out.2.size
        have q2 := ((HQ.out.2.1.below Z4.out).only HS.out (fun k hk hd => by omega)).only HON.out (fun k hk hd => by omega)
        have q3' := ((HQ.out.2.2.1.below Z4.out).only HS.out (fun k hk hd => by omega)).only HON.out (fun k hk hd => by omega)
        have := same20_any (c := c10) (d := c20) LA LA (q2.rq H6.out.1) (q3'.rq H15.out.1) (by have := HF.out.2.2.2; omega) (q2.plens H6.out.1) (q3'.plens H15.out.1)
        rw [sameL_self] at this
        exact this
      go_upto_region 24 with (go_at_call 20; refine k20.mono ?_; rintro e wT ⟨rfl, hbT⟩; have HbT := hide hbT; clear hbT k20)
      have HT : Hid (Below w.heap.size w wT ∧ wT.heap[w3.heap.size]? = some (.cells (oc6 (.slice p1a o1p.length p1c) o1k o1s o1d o1n o1t) 34 (0, 0)) ∧ wT.heap[w13.heap.size]? = some (.cells (oc6 (.slice p4a o1p.length p4c) o1k o1s o1d o1n o1t) 34 (0, 0)) ∧ w.heap.size ≤ w3.heap.size ∧ w3.heap.size < w13.heap.size) := hide (by
        have g1 := HC.out.2.2.2.2.2.2.2.2.2
        have g2 := HB4.out.2.size
        have g3 := HB5.out.2.size
        have g4 := HB2.out.size
        have g5 := H3.out.2.size
        have g6 := D4.out.2.2
        have g7 := H5.out.2.2.size
        have g8 := HB15.out.size
        have g9 := HC.out.2.2.2.2.2.2.2.1.size
        have bZ := up HB15.out Z4.out
        have g10 := bZ.size
        have bS := bZ.trans (HS.out.below g10 (fun j hj => by omega))
        have g11 := bS.size
        have bR := bS.trans (HON.out.below g11 (fun j hj => hj.1))
        obtain ⟨⟨n6, -⟩, ⟨n18, -⟩, -⟩ := HZ.out v4w Z4.out
        have c6 := op_keep (op_keep n6 HS.out (by omega)) HON.out (by omega)
        have c18 := op_keep (op_keep n18 HS.out (by omega)) HON.out (by omega)
        exact ⟨up bR HbT.out, (HbT.out.block _ (Array.getElem?_eq_some_iff.1 c6).1).trans c6, (HbT.out.block _ (Array.getElem?_eq_some_iff.1 c18).1).trans c18, by omega, by omega⟩)
      have hs6 : s.size ≤ 1000000 := by have := HL.out.2; omega
      have k34 := parse34_any s wT hs6 (HE2.out.1.below HT.out.1) (.inr (HA.out.2.2.2.2.2.2.below HT.out.1))
      have hp4 := parseS_plen s
      obtain ⟨PS, hPS⟩ : ∃ r, r = parseS s := ⟨_, rfl⟩
      rw [← hPS] at k34 hp4
      obtain ⟨PA, hPA⟩ : ∃ r, r = parseA s := ⟨_, rfl⟩
      have HPS := hide (And.intro hPS (And.intro hPA (And.intro hs6 hp4)))
      clear hPS hPA hs6 hp4 hlt hkm
      obtain ⟨⟨o4p, o4k, o4s, o4d, o4n, o4t⟩, e4⟩ := PS
      obtain ⟨LP, eP⟩ := PA
      dsimp only at k34 HPS
      go_upto_region 25 with (go_at_call 34; refine k34.mono ?_; rintro e w21 ⟨p5a, p5c, rfl, hos, hb⟩; have H21 := hide (And.intro hos hb); have N6 := hide ((hb.block _ (Array.getElem?_eq_some_iff.1 HT.out.2.1).1).trans HT.out.2.1); clear hos hb k34; obtain ⟨⟨x0, x1, x2, x3, x4, x5⟩, f0, f1, f2, f3, f4, f5⟩ := blk6 N6.out)
      obtain ⟨w22, hw22⟩ : ∃ r, r = ((((((w21.setCell ⟨w3.heap.size, 0, none⟩ (.slice p5a o4p.length p5c)).setCell ⟨w3.heap.size, 1, none⟩ (.int .i64 o4k)).setCell ⟨w3.heap.size, 2, none⟩ (.string o4s)).setCell ⟨w3.heap.size, 3, none⟩ (.int .i64 o4d)).setCell ⟨w3.heap.size, 4, none⟩ (.int .i64 o4n)).setCell ⟨w3.heap.size, 5, none⟩ (.string o4t)) := ⟨_, rfl⟩
      rw [← hw22]
      have H22 : Hid (w22.heap[w3.heap.size]? = some (.cells (oc6 (.slice p5a o4p.length p5c) o4k o4s o4d o4n o4t) 34 (0, 0)) ∧ Only (fun j => j = w3.heap.size) w21 w22) := hide (by rw [hw22]; exact ⟨set6 N6.out, only6⟩)
      clear hw22 x0 x1 x2 x3 x4 x5 f0 f1 f2 f3 f4 f5 N6
      have HB22 : Hid (Below w.heap.size w w22 ∧ Os w22 wT.heap.size (.slice p5a o4p.length p5c) o4p ∧ w22.heap[w13.heap.size]? = some (.cells (oc6 (.slice p4a o1p.length p4c) o1k o1s o1d o1n o1t) 34 (0, 0)) ∧ w3.heap.size < w22.heap.size) := hide (by
        obtain ⟨hbT, n6, n18, g1, g2⟩ := HT.out
        have b21 := up hbT H21.out.2
        have q := (Array.getElem?_eq_some_iff.1 n6).1
        have q2 := H21.out.2.size
        have q3 := H22.out.2.size
        exact ⟨b21.trans (H22.out.2.below b21.size (fun j hj => by omega)), H21.out.1.only H22.out.2 (fun j hj hd => by have := (World.ownsRow.lt H21.out.1 j hj).1; omega), op_keep ((H21.out.2.block _ (Array.getElem?_eq_some_iff.1 n18).1).trans n18) H22.out.2 (by omega), by omega⟩)
      have k35 := dparse_any s w22 HPS.out.2.2.1 (HE2.out.1.below HB22.out.1) (HA.out.2.2.2.2.2.2.below HB22.out.1)
      rw [← HPS.out.1] at k35
      dsimp only at k35
      go_upto_region 26 with (go_at_call 35; refine k35.mono ?_; rintro e w23 ⟨p6a, p6c, rfl, hos, hb⟩; have H23 := hide (And.intro hos hb); have N18 := hide ((hb.block _ (Array.getElem?_eq_some_iff.1 HB22.out.2.2.1).1).trans HB22.out.2.2.1); clear hos hb k35; obtain ⟨⟨x0, x1, x2, x3, x4, x5⟩, f0, f1, f2, f3, f4, f5⟩ := blk6 N18.out)
      obtain ⟨w24, hw24⟩ : ∃ r, r = ((((((w23.setCell ⟨w13.heap.size, 0, none⟩ (.slice p6a o4p.length p6c)).setCell ⟨w13.heap.size, 1, none⟩ (.int .i64 o4k)).setCell ⟨w13.heap.size, 2, none⟩ (.string o4s)).setCell ⟨w13.heap.size, 3, none⟩ (.int .i64 o4d)).setCell ⟨w13.heap.size, 4, none⟩ (.int .i64 o4n)).setCell ⟨w13.heap.size, 5, none⟩ (.string o4t)) := ⟨_, rfl⟩
      rw [← hw24]
      have H24 : Hid (w24.heap[w13.heap.size]? = some (.cells (oc6 (.slice p6a o4p.length p6c) o4k o4s o4d o4n o4t) 34 (0, 0)) ∧ Only (fun j => j = w13.heap.size) w23 w24) := hide (by rw [hw24]; exact ⟨set6 N18.out, only6⟩)
      clear hw24 x0 x1 x2 x3 x4 x5 f0 f1 f2 f3 f4 f5
      have HB24 : Hid (Below w.heap.size w w24 ∧ (w24.heap[w3.heap.size]? = some (.cells (oc6 (.slice p5a o4p.length p5c) o4k o4s o4d o4n o4t) 34 (0, 0)) ∧ Os w24 wT.heap.size (.slice p5a o4p.length p5c) o4p) ∧ Os w24 w22.heap.size (.slice p6a o4p.length p6c) o4p) := hide (by
        obtain ⟨hbT, n6, n18, g1, g2⟩ := HT.out
        obtain ⟨b22, o5, n18', g3⟩ := HB22.out
        have b23 := up b22 H23.out.2
        have q := (Array.getElem?_eq_some_iff.1 n18).1
        have q2 := (Array.getElem?_eq_some_iff.1 n18').1
        exact ⟨b23.trans (H24.out.2.below b23.size (fun j hj => by omega)), ⟨op_keep ((H23.out.2.block _ g3).trans H22.out.1) H24.out.2 (by omega), (o5.below H23.out.2).only H24.out.2 (fun j hj hd => by have := (World.ownsRow.lt o5 j hj).1; omega)⟩, H23.out.1.only H24.out.2 (fun j hj hd => by have := (World.ownsRow.lt H23.out.1 j hj).1; omega)⟩)
      have k36 := parseAll36_any s w24 HPS.out.2.2.1 (HE2.out.1.below HB24.out.1) (.inr (HA.out.2.2.2.2.2.2.below HB24.out.1))
      rw [← HPS.out.2.1] at k36
      dsimp only at k36
      go_upto_region 27 with (go_at_call 36; refine k36.mono ?_; rintro e w25 ⟨v26, rfl, xs4, hx4, hq4, hb⟩; have H25 := hide (And.intro hx4 (And.intro hq4 hb)); clear hx4 hq4 hb k36)
      obtain ⟨a26, c26, hv26, -, -, -, -⟩ := H25.out.2.1.shape
      rw [show xs4.length = LP.length by rw [← H25.out.1]; simp] at hv26
      subst hv26
      have HB25 : Hid (Below w.heap.size w w25) := hide (up HB24.out.1 H25.out.2.2)
      have k37 := dparseAll_any s w25 HPS.out.2.2.1 (HE2.out.1.below HB25.out) (HA.out.2.2.2.2.2.2.below HB25.out)
      rw [← HPS.out.2.1] at k37
      dsimp only at k37
      go_upto_region 28 with (go_at_call 37; refine k37.mono ?_; rintro e w26 ⟨v27, rfl, xs5, hx5, hq5, hb⟩; have H26 := hide (And.intro hx5 (And.intro hq5 hb)); clear hx5 hq5 hb k37)
      obtain ⟨a27, c27, hv27, -, -, -, -⟩ := H26.out.2.1.shape
      rw [show xs5.length = LP.length by rw [← H26.out.1]; simp] at hv27
      subst hv27
      have d46 := up H25.out.2.2 H26.out.2.2
      have c6 := (d46.block _ (Array.getElem?_eq_some_iff.1 HB24.out.2.1.1).1).trans HB24.out.2.1.1
      have c18 := (d46.block _ (Array.getElem?_eq_some_iff.1 H24.out.1).1).trans H24.out.1
      have k30 := sameOp_any (pc := p5c) (qc := p6c) ⟨o4p, o4k, o4s, o4d, o4n, o4t⟩ ⟨o4p, o4k, o4s, o4d, o4n, o4t⟩ (HB24.out.2.1.2.below d46).rs' (HB24.out.2.2.below d46).rs' HPS.out.2.2.2 HPS.out.2.2.2
      rw [sameO_self] at k30
      have hlp := parseA_len s
      rw [← HPS.out.2.1] at hlp
      dsimp only at hlp
      have k20 : ∀ W, Below w26.heap.size w26 W → Calls Tryz.prog 20 #[.slice a26 LP.length c26, .slice a27 LP.length c27] W fun e w' => e = .returned (.bool true) ∧ Below W.heap.size W w' := fun W hW => by
        have := same20_any (c := c26) (d := c27) LP LP (((H25.out.2.1.below H26.out.2.2).below hW).rq H25.out.1) ((H26.out.2.1.below hW).rq H26.out.1) (by omega) (H25.out.2.1.plens H25.out.1) (H26.out.2.1.plens H26.out.1)
        rw [sameL_self] at this
        exact this
      have K20 := hide k20
      obtain ⟨⟨x0, x1, x2, x3, x4, x5⟩, -⟩ := blk6 c6
      obtain ⟨⟨y0, y1, y2, y3, y4, y5⟩, -⟩ := blk6 c18
      have HB26 : Hid (Below w.heap.size w w26) := hide (up HB25.out H26.out.2.2)
      clear d46 c6 c18 hlp k20
      go_wp2_with fail
      refine k30.mono ?_
      rintro e u1 ⟨rfl, bu1⟩
      have U1 := hide bu1
      clear bu1 k30 x0 x1 x2 x3 x4 x5 y0 y1 y2 y3 y4 y5
      go_wp2_with (first
        | (go_at_call 14; refine (num14_any _ _).mono ?_; rintro e wq ⟨rfl, hq⟩; have hq := hq.symm; subst hq)
        | (go_at_call 20; refine (K20.out _ U1.out).mono ?_; rintro e u2 ⟨rfl, bu2⟩; have U2 := hide (up U1.out bu2); clear bu2)
        | (go_at_call 9; refine (HK9.out _ (up HB26.out U2.out)).mono ?_; rintro e u3 ⟨rfl, bu3⟩; have U3 := hide (up (up HB26.out U2.out) bu3); clear bu3))
      go_ret
      exact ⟨rfl, U3.out⟩
end Go.Proofs.YtpepgoelnagoaaaGreatDoor
namespace Go.Proofs.YtpepgoelnagoaaaGreatDoor
open Go.ChangeShapes Go.WideShapes Go.ChangeAt Go.RowKit Go.Lib Go.Shelf

theorem own : ownKnob Tryz.prog.godebug = none := by kernel_rfl
theorem laidOut : laidOutB Tryz.prog = true := by kernel_rfl
instance : Inhabited ByteArray := ⟨⟨#[]⟩⟩
instance : Inhabited Od := ⟨⟨[], 0, ⟨#[]⟩, 0, 0, ⟨#[]⟩⟩⟩
instance : Inhabited (Option Addr) := ⟨none⟩
end Go.Proofs.YtpepgoelnagoaaaGreatDoor
