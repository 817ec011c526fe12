/-
  tagset: the document's OfKey (27).
-/
import Derived.Test.YtkkpdgfllnbigaaGreatMg16
import Derived.Test.YtkkpdgfllnbigaaGreatMg17
import Derived.Test.YtkkpdgfllnbigaaGreatMg15
import Derived.Test.YtkkpdgfllnbigaaGreatMg14
namespace Go.Proofs.YtkkpdgfllnbigaaGreat.Tg
open Go.RowKit Go.Shelf
set_option linter.unusedSimpArgs false
set_option linter.unusedVariables false
attribute [local go_sem] Oper.semAt_some

theorem pushL {w : World} {B b : Nat} {v : Value} {p : List Int} {c : Int} (hown : Own 5 w B v p) (hcell : w.heap[b]? = some (.cells #[.int .u8 c] 5 (0, 0))) (hp : p.length + 1 ≤ 140737488355328) (hB : B ≤ w.heap.size) :
    ∃ a' c' w', (Builtin.append_ #[121, 121] 121 #[v, .slice (some ⟨b, 0, none⟩) 1 1]).run Tryz.prog w = .ok (.slice a' (p.length + 1) c') w' ∧ Own 5 w' B (.slice a' (p.length + 1) c') (p ++ [c]) ∧ w.grownBy w' v.ownBlock := by
  obtain ⟨i0, hi, hz0, hz1, hz2⟩ := info_parts Tryz.info5
  obtain ⟨v', w', hr, h2, h3, h4⟩ := append_where (P := Tryz.prog) w 121 121 5 i0 (.int .u8 0) 1 1 Tryz.underlying121 hi hz0 hz1 hz2 rfl (by decide) v p.length (u8s p) (hown.lift (Nat.zero_le _)) ⟨b, 0, none⟩ 1 1 [.int .u8 c] (by simp) (fun j u hj => by rw [add_lit, cell_of_row _ _ (0 + j) #[.int .u8 c] 5 (0, 0) hcell, Nat.zero_add]; simpa using hj) (fun u hu => u8s_one (l := [c]) u (by simpa [u8s] using hu)) (by unfold maxLen; omega) (by omega)
  have hO : Own 5 w' 0 v' (p ++ [c]) := by
    unfold Own
    rw [u8s_append, List.length_append]
    exact h2
  obtain ⟨a', c', hv, _, _⟩ := row_form hO
  subst hv
  rw [List.length_append] at hO hr h4
  refine ⟨a', c', w', hr, ?_, h3⟩
  rcases hO with ⟨q1, q2⟩
  refine ⟨q1, ?_⟩
  rcases q2 with q2 | ⟨g, cap, cur, e, hb, r⟩
  · exact .inl q2
  · refine .inr ⟨g, cap, cur, e, ?_, r⟩
    rcases h4 g (by rw [show (Value.slice a' (p.length + [c].length) c') = _ from e]; rfl) with h | h
    · exact (World.ownsRow.lt hown g h).1
    · omega
theorem set6 {w : World} {B : Nat} {x0 x1 x2 x3 x4 x5 : Value} {ty : TypeId} (a b c d e f : Value) (h : w.heap[B]? = some (.cells #[x0, x1, x2, x3, x4, x5] ty (0, 0))) : (World.setCell (World.setCell (World.setCell (World.setCell (World.setCell (World.setCell w ⟨B, 0, none⟩ a) ⟨B, 1, none⟩ b) ⟨B, 2, none⟩ c) ⟨B, 3, none⟩ d) ⟨B, 4, none⟩ e) ⟨B, 5, none⟩ f).heap[B]? = some (.cells #[a, b, c, d, e, f] ty (0, 0)) ∧ Only (fun j => j = B) w (World.setCell (World.setCell (World.setCell (World.setCell (World.setCell (World.setCell w ⟨B, 0, none⟩ a) ⟨B, 1, none⟩ b) ⟨B, 2, none⟩ c) ⟨B, 3, none⟩ d) ⟨B, 4, none⟩ e) ⟨B, 5, none⟩ f) := by
  obtain ⟨h1, o1⟩ := set_one (i := 0) a h
  obtain ⟨h2, o2⟩ := set_one (i := 1) b h1
  obtain ⟨h3, o3⟩ := set_one (i := 2) c h2
  obtain ⟨h4, o4⟩ := set_one (i := 3) d h3
  obtain ⟨h5, o5⟩ := set_one (i := 4) e h4
  obtain ⟨h6, o6⟩ := set_one (i := 5) f h5
  exact ⟨by simpa using h6, ((((o1.next o2).next o3).next o4).next o5).next o6⟩
theorem T53 : (Tryz.prog.info? 53).map (·.size) = some 6 := by kernel_rfl
set_option maxHeartbeats 4000000 in
set_option maxRecDepth 100000 in
theorem ofKey27 (k : ByteArray) (w : World) (hk : k.size ≤ 140737488355328) : Calls Tryz.prog 27 #[.string k] w fun e w' => e = .returned (.tuple #[ev (ofK k).1, .bool (ofK k).2]) ∧ Below w.heap.size w w' := by
  obtain ⟨w0, hw0⟩ : ∃ q, q = w.alloc (.cells #[.int .i64 0, .int .i64 0, .string ⟨#[]⟩, .int .i64 0, .int .i64 0, .string ⟨#[]⟩] 53) := ⟨_, rfl⟩
  have m := heap_alloc_new w (.cells #[.int .i64 0, .int .i64 0, .string ⟨#[]⟩, .int .i64 0, .int .i64 0, .string ⟨#[]⟩] 53)
  have b0 : Below w.heap.size w (w.alloc (.cells #[.int .i64 0, .int .i64 0, .string ⟨#[]⟩, .int .i64 0, .int .i64 0, .string ⟨#[]⟩] 53)) := (Below.refl _ w).alloc (Nat.le_refl _) _
  rw [← hw0] at m b0
  obtain ⟨Rb, hRb⟩ : ∃ q, q = w.heap.size := ⟨_, rfl⟩
  rw [← hRb] at m
  have HC : Hid (∀ W, Below w0.heap.size w0 W → W.heap[Rb]? = some (.cells #[.int .i64 0, .int .i64 0, .string ⟨#[]⟩, .int .i64 0, .int .i64 0, .string ⟨#[]⟩] 53 (0, 0)) ∧ Below w.heap.size w W) := hide (fun W hW => ⟨(hW.block _ (gI m).1).trans m, b0.trans (hW.mono b0.size)⟩)
  have HW0 := hide (And.intro hw0 hRb)
  obtain ⟨L, hL⟩ : ∃ q, q = k.data.toList := ⟨_, rfl⟩
  have hLs : L.length = k.size := by rw [hL]; rfl
  have hix : ∀ (j : Nat) (c : UInt8), L[j]? = some c → ∀ W, (Instr.index 9 (.string k) (.int .i64 (j : Int))).run Tryz.prog W = .ok (.int .u8 (c.toNat : Int)) W := fun j c hc W => by
    have hj : j < k.size := by rw [← hLs]; exact (List.getElem?_eq_some_iff.1 hc).1
    obtain ⟨x, hx, -, -, hr⟩ := at_string k j hj
    rw [hr W, hx]
    rw [hL, List.getElem?_eq_getElem (by simpa using hj)] at hc
    injection hc with hc
    rw [← hc]
    rfl
  have hdr : ∀ j, j + 1 < k.size → ∃ a b l, L.drop j = a :: b :: l := fun j hj => by
    cases h1 : L.drop j with
    | nil => have := congrArg List.length h1; rw [List.length_drop] at this; simp at this; omega
    | cons a m1 =>
      cases m1 with
      | nil => have := congrArg List.length h1; rw [List.length_drop] at this; simp at this; omega
      | cons b l => exact ⟨a, b, l, rfl⟩
  have hix2 : ∀ (j : Nat) (c : UInt8), (L.drop j)[0]? = some c → ∀ W, (Instr.index 9 (.string k) (.int .i64 (j : Int))).run Tryz.prog W = .ok (.int .u8 (c.toNat : Int)) W := fun j c hc W => hix j c (by rw [List.getElem?_drop] at hc; exact hc) W
  have HL := hide (And.intro hLs (And.intro hdr hix2))
  have HK := hide hL
  clear m b0 hw0 hRb hL hLs hix hdr hix2
  go_enter Tryz.func27, Tryz.ntmps27
  go_upto_region 1 with fail
  rw [← HW0.out.1, ← HW0.out.2]
  go_wp2
  go_loopw [4, 5] (fun v4 v5 wr => ∃ (i : Nat) (p : List Int) (acc : List UInt8), i ≤ k.size ∧ p.length ≤ i ∧ v5 = .int .i64 (i : Nat) ∧ Hid (p = ints acc ∧ cutK acc (L.drop i) = cutK [] L) ∧ Hid (Own 5 wr w0.heap.size v4 p ∧ Below w0.heap.size w0 wr)) (fun _ v5 _ => k.size - (intOf v5).toNat)
  case atStart => exact ⟨0, [], [], Nat.zero_le _, Nat.le_refl _, rfl, hide ⟨rfl, rfl⟩, hide ⟨Own.nil 5 _ _, Below.refl _ _⟩⟩
  case round =>
    obtain ⟨i, p, acc, hi, hpl, rfl, hp, HI⟩ := hrel
    by_cases hgo : i + 1 < k.size
    · have z1 : (i : Int) + 1 < (k.size : Int) := by omega
      obtain ⟨a, b, l, hd⟩ := HL.out.2.1 i hgo
      have hxa := HL.out.2.2 i a (by rw [hd]; rfl)
      have hd1 : L.drop (i + 1) = b :: l := by have h := congrArg (List.drop 1) hd; rw [List.drop_drop] at h; simpa using h
      have hd2 : L.drop (i + 2) = l := by have h := congrArg (List.drop 2) hd; rw [List.drop_drop] at h; simpa using h
      have hxb : ∀ W, (Instr.index 9 (.string k) (.int .i64 ((i : Int) + 1))).run Tryz.prog W = .ok (.int .u8 (b.toNat : Int)) W := fun W => HL.out.2.2 (i + 1) b (by rw [hd1]; rfl) W
      obtain ⟨hp1, hp2⟩ := hp.out
      rw [hd] at hp2
      by_cases ha : a = 0
      · subst ha
        by_cases hb : b = 0
        · subst hb
          rw [cutK, if_pos rfl, if_pos rfl] at hp2
          go_upto_region 6 with fail
          obtain ⟨RS, hRS⟩ : ∃ q : ByteArray, q = ⟨l.toArray⟩ := ⟨_, rfl⟩
          obtain ⟨X, hX⟩ : ∃ q : ByteArray, q = ⟨acc.toArray⟩ := ⟨_, rfl⟩
          have hext : k.extract (i + 2) k.size = RS := by
            rw [hRS, ← hd2, HK.out]
            apply ba_eq
            simp [ByteArray.data_extract, List.take_of_length_le]
          have hRSn : RS.size ≤ 9223372036854775807 := by
            rw [← hext, ByteArray.size_extract]; omega
          have hcv : ∀ W, Below wr.heap.size wr W → (convert 121 9 u4).run Tryz.prog W = .ok (.string X) W := fun W hW => by
            obtain ⟨a2, c2, hv2, hrd2, -⟩ := HI.out.1.shape
            rw [hv2, conv_rd (hrd2.below hW) rfl, hp1, str_ints, hX]
          have hres : ofK k = if (okV RS && (txtB X && decide (tkey X (ofT RS) = k))) = true then ((ofT RS, X), true) else ((zS, ⟨#[]⟩), false) := by
            unfold ofK
            rw [← HK.out, ← hp2, hRS, hX]
          have hq : ∀ W, Calls Tryz.prog 121 #[.string RS] W fun e w' => e = .returned (.tuple #[svT (ofT RS), .int .i64 (if okV RS then 0 else 4)]) ∧ Below W.heap.size W w' := fun W => refOfKey_any RS W hRSn
          have hsv : okV RS = true → stV (ofT RS) = true := fun h => (okV_of h).2
          obtain ⟨S, hS⟩ : ∃ q, q = ofT RS := ⟨_, rfl⟩
          rw [← hS] at hres hq hsv
          obtain ⟨V, hV⟩ : ∃ q, q = okV RS := ⟨_, rfl⟩
          rw [← hV] at hres hq hsv
          have HRES := hide hres
          have HCV := hide hcv
          have HB0 := hide HI.out.2
          have HSV := hide hsv
          have hq1 := hq wr
          clear hres hcv hRS hX hd hd1 hd2 hp hp1 hp2 hxa hxb hS hV hsv hq hRSn HI hpl hi
          obtain ⟨g, r, lb, n, ix⟩ := S
          dsimp only [svT, sv] at hq1
          cases V with
          | false =>
            rw [show (if false = true then (0 : Int) else 4) = 4 from rfl] at hq1
            go_upto_region 8 with (go_at_call 121; (try rw [hext]); refine hq1.mono ?_; rintro e w1 ⟨rfl, b1⟩; have H1 := hide b1; clear b1; dsimp only)
            obtain ⟨W6, hW6⟩ : ∃ q, q = w1.alloc (.cells #[.int .i64 g, .int .i64 r, .string lb, .int .i64 n, .int .i64 ix] 43) := ⟨_, rfl⟩
            have d6 : Below w1.heap.size w1 W6 := by rw [hW6]; exact (Below.refl _ w1).alloc (Nat.le_refl _) _
            have m6 := heap_alloc_new w1 (.cells #[.int .i64 g, .int .i64 r, .string lb, .int .i64 n, .int .i64 ix] 43)
            obtain ⟨Sb, hSb⟩ : ∃ q, q = w1.heap.size := ⟨_, rfl⟩
            rw [← hW6, ← hSb] at m6
            rw [← hW6, ← hSb]
            have B6 := hide (H1.out.trans (d6.mono H1.out.size))
            clear hW6 d6 m6 hSb hq1
            obtain ⟨e5, bw5⟩ := HC.out W6 (HB0.out.trans (B6.out.mono HB0.out.size))
            obtain ⟨u7, o7⟩ := set6 (.int .i64 0) (.int .i64 0) (.string ⟨#[]⟩) (.int .i64 0) (.int .i64 0) (.string ⟨#[]⟩) e5
            have b7 := Below.only bw5 o7 bw5.size (fun j e => by have e' : j = Rb := e; have := HW0.out.2; omega)
            have HE := hide (And.intro u7 b7)
            have d0 : World.cell? W6 ⟨Rb, 0, none⟩ = some (.int .i64 0) := (cell_of_row _ _ 0 _ 53 (0, 0) e5).trans rfl
            have d1 : World.cell? W6 ⟨Rb, 1, none⟩ = some (.int .i64 0) := (cell_of_row _ _ 1 _ 53 (0, 0) e5).trans rfl
            have d2 : World.cell? W6 ⟨Rb, 2, none⟩ = some (.string ⟨#[]⟩) := (cell_of_row _ _ 2 _ 53 (0, 0) e5).trans rfl
            have d3 : World.cell? W6 ⟨Rb, 3, none⟩ = some (.int .i64 0) := (cell_of_row _ _ 3 _ 53 (0, 0) e5).trans rfl
            have d4 : World.cell? W6 ⟨Rb, 4, none⟩ = some (.int .i64 0) := (cell_of_row _ _ 4 _ 53 (0, 0) e5).trans rfl
            have d5 : World.cell? W6 ⟨Rb, 5, none⟩ = some (.string ⟨#[]⟩) := (cell_of_row _ _ 5 _ 53 (0, 0) e5).trans rfl
            have g0 := frozen_of_row W6 Rb 0 _ 53 e5
            have g1 := frozen_of_row W6 Rb 1 _ 53 e5
            have g2 := frozen_of_row W6 Rb 2 _ 53 e5
            have g3 := frozen_of_row W6 Rb 3 _ 53 e5
            have g4 := frozen_of_row W6 Rb 4 _ 53 e5
            have g5 := frozen_of_row W6 Rb 5 _ 53 e5
            clear u7 o7 e5 bw5 b7
            go_wp2
            have HZ : ofK k = ((zS, ⟨#[]⟩), false) := by rw [HRES.out]; rfl
            refine ret_row_tmp Rb [.int .i64 0, .int .i64 0, .string ⟨#[]⟩, .int .i64 0, .int .i64 0, .string ⟨#[]⟩] rfl rfl rfl Tryz.underlying53 rfl T53 HE.out.1 rfl ?_
            exact ⟨by rw [HZ]; rfl, HE.out.2⟩
          | true =>
            rw [show (if true = true then (0 : Int) else 4) = 0 from rfl] at hq1
            have hsv := HSV.out rfl
            go_upto_region 7 with (go_at_call 121; (try rw [hext]); refine hq1.mono ?_; rintro e w1 ⟨rfl, b1⟩; have H1 := hide b1; clear b1; dsimp only)
            obtain ⟨W6, hW6⟩ : ∃ q, q = w1.alloc (.cells #[.int .i64 g, .int .i64 r, .string lb, .int .i64 n, .int .i64 ix] 43) := ⟨_, rfl⟩
            have d6 : Below w1.heap.size w1 W6 := by rw [hW6]; exact (Below.refl _ w1).alloc (Nat.le_refl _) _
            have m6 := heap_alloc_new w1 (.cells #[.int .i64 g, .int .i64 r, .string lb, .int .i64 n, .int .i64 ix] 43)
            obtain ⟨Sb, hSb⟩ : ∃ q, q = w1.heap.size := ⟨_, rfl⟩
            rw [← hW6, ← hSb] at m6
            rw [← hW6, ← hSb]
            have B6 := hide (H1.out.trans (d6.mono H1.out.size))
            have hc6 := HCV.out W6 B6.out
            have htx := refText_any X
            have HM6 : Hid (∀ W, Below W6.heap.size W6 W → W.cell? ⟨Sb, 0, none⟩ = some (.int .i64 g) ∧ W.cell? ⟨Sb, 1, none⟩ = some (.int .i64 r) ∧ W.cell? ⟨Sb, 2, none⟩ = some (.string lb) ∧ W.cell? ⟨Sb, 3, none⟩ = some (.int .i64 n) ∧ W.cell? ⟨Sb, 4, none⟩ = some (.int .i64 ix)) := hide (fun W hW => by
              have q := (hW.block _ (gI m6).1).trans m6
              exact ⟨(cell_of_row _ _ 0 _ 43 (0, 0) q).trans rfl, (cell_of_row _ _ 1 _ 43 (0, 0) q).trans rfl, (cell_of_row _ _ 2 _ 43 (0, 0) q).trans rfl, (cell_of_row _ _ 3 _ 43 (0, 0) q).trans rfl, (cell_of_row _ _ 4 _ 43 (0, 0) q).trans rfl⟩)
            clear hW6 d6 m6 hSb hq1
            by_cases hT : txtB X = true
            · have hX6 : X.size ≤ 256 := by unfold txtB at hT; simpa using hT
              have hky := key122 X (g, r, lb, n, ix) W6 hX6 hsv
              dsimp only [svT, sv] at hky
              obtain ⟨s0, s1, s2, s3, s4⟩ := HM6.out W6 (Below.refl _ _)
              rw [hT] at htx
              by_cases hK : tkey X (g, r, lb, n, ix) = k
              · have bq : ((tkey X (g, r, lb, n, ix)).toList == k.toList) = true := by rw [bytes_same]; exact hK
                have HZ : ofK k = (((g, r, lb, n, ix), X), true) := by rw [HRES.out, hT, decide_eq_true hK]; rfl
                have HZZ := hide HZ
                clear HZ hK hT hX6 hsv
                go_upto_region 9 with (first | (go_at_call 111; refine (htx _).mono ?_; rintro e w2 ⟨rfl, hw⟩; replace hw := hw.symm; subst hw; dsimp only) | (go_at_call 122; refine hky.mono ?_; rintro e w3 ⟨rfl, b3⟩; have H3 := hide b3; clear b3; dsimp only))
                have hc3 := HCV.out w3 (B6.out.trans (H3.out.mono B6.out.size))
                obtain ⟨t0, t1, t2, t3, t4⟩ := HM6.out w3 H3.out
                clear hc6 s0 s1 s2 s3 s4 hky htx
                obtain ⟨e5, bw5⟩ := HC.out w3 (HB0.out.trans ((B6.out.trans (H3.out.mono B6.out.size)).mono HB0.out.size))
                obtain ⟨u7, o7⟩ := set6 (.int .i64 g) (.int .i64 r) (.string lb) (.int .i64 n) (.int .i64 ix) (.string X) e5
                have b7 := Below.only bw5 o7 bw5.size (fun j e => by have e' : j = Rb := e; have := HW0.out.2; omega)
                have HE := hide (And.intro u7 b7)
                have d0 : World.cell? w3 ⟨Rb, 0, none⟩ = some (.int .i64 0) := (cell_of_row _ _ 0 _ 53 (0, 0) e5).trans rfl
                have d1 : World.cell? w3 ⟨Rb, 1, none⟩ = some (.int .i64 0) := (cell_of_row _ _ 1 _ 53 (0, 0) e5).trans rfl
                have d2 : World.cell? w3 ⟨Rb, 2, none⟩ = some (.string ⟨#[]⟩) := (cell_of_row _ _ 2 _ 53 (0, 0) e5).trans rfl
                have d3 : World.cell? w3 ⟨Rb, 3, none⟩ = some (.int .i64 0) := (cell_of_row _ _ 3 _ 53 (0, 0) e5).trans rfl
                have d4 : World.cell? w3 ⟨Rb, 4, none⟩ = some (.int .i64 0) := (cell_of_row _ _ 4 _ 53 (0, 0) e5).trans rfl
                have d5 : World.cell? w3 ⟨Rb, 5, none⟩ = some (.string ⟨#[]⟩) := (cell_of_row _ _ 5 _ 53 (0, 0) e5).trans rfl
                have g0 := frozen_of_row w3 Rb 0 _ 53 e5
                have g1 := frozen_of_row w3 Rb 1 _ 53 e5
                have g2 := frozen_of_row w3 Rb 2 _ 53 e5
                have g3 := frozen_of_row w3 Rb 3 _ 53 e5
                have g4 := frozen_of_row w3 Rb 4 _ 53 e5
                have g5 := frozen_of_row w3 Rb 5 _ 53 e5
                clear u7 o7 e5 bw5 b7
                go_wp2
                refine ret_row_tmp Rb [.int .i64 g, .int .i64 r, .string lb, .int .i64 n, .int .i64 ix, .string X] rfl rfl rfl Tryz.underlying53 rfl T53 HE.out.1 rfl ?_
                exact ⟨by rw [HZZ.out]; rfl, HE.out.2⟩
              · have bq : ((tkey X (g, r, lb, n, ix)).toList == k.toList) = false := by rw [Bool.eq_false_iff, Ne, bytes_same]; exact hK
                have HZ : ofK k = ((zS, ⟨#[]⟩), false) := by rw [HRES.out, hT, decide_eq_false hK]; rfl
                have HZZ := hide HZ
                clear HZ hK hT hX6 hsv
                go_upto_region 8 with (first | (go_at_call 111; refine (htx _).mono ?_; rintro e w2 ⟨rfl, hw⟩; replace hw := hw.symm; subst hw; dsimp only) | (go_at_call 122; refine hky.mono ?_; rintro e w3 ⟨rfl, b3⟩; have H3 := hide b3; clear b3; dsimp only))
                clear hc6 s0 s1 s2 s3 s4 hky htx
                obtain ⟨e5, bw5⟩ := HC.out w3 (HB0.out.trans ((B6.out.trans (H3.out.mono B6.out.size)).mono HB0.out.size))
                obtain ⟨u7, o7⟩ := set6 (.int .i64 0) (.int .i64 0) (.string ⟨#[]⟩) (.int .i64 0) (.int .i64 0) (.string ⟨#[]⟩) e5
                have b7 := Below.only bw5 o7 bw5.size (fun j e => by have e' : j = Rb := e; have := HW0.out.2; omega)
                have HE := hide (And.intro u7 b7)
                have d0 : World.cell? w3 ⟨Rb, 0, none⟩ = some (.int .i64 0) := (cell_of_row _ _ 0 _ 53 (0, 0) e5).trans rfl
                have d1 : World.cell? w3 ⟨Rb, 1, none⟩ = some (.int .i64 0) := (cell_of_row _ _ 1 _ 53 (0, 0) e5).trans rfl
                have d2 : World.cell? w3 ⟨Rb, 2, none⟩ = some (.string ⟨#[]⟩) := (cell_of_row _ _ 2 _ 53 (0, 0) e5).trans rfl
                have d3 : World.cell? w3 ⟨Rb, 3, none⟩ = some (.int .i64 0) := (cell_of_row _ _ 3 _ 53 (0, 0) e5).trans rfl
                have d4 : World.cell? w3 ⟨Rb, 4, none⟩ = some (.int .i64 0) := (cell_of_row _ _ 4 _ 53 (0, 0) e5).trans rfl
                have d5 : World.cell? w3 ⟨Rb, 5, none⟩ = some (.string ⟨#[]⟩) := (cell_of_row _ _ 5 _ 53 (0, 0) e5).trans rfl
                have g0 := frozen_of_row w3 Rb 0 _ 53 e5
                have g1 := frozen_of_row w3 Rb 1 _ 53 e5
                have g2 := frozen_of_row w3 Rb 2 _ 53 e5
                have g3 := frozen_of_row w3 Rb 3 _ 53 e5
                have g4 := frozen_of_row w3 Rb 4 _ 53 e5
                have g5 := frozen_of_row w3 Rb 5 _ 53 e5
                clear u7 o7 e5 bw5 b7
                go_wp2
                refine ret_row_tmp Rb [.int .i64 0, .int .i64 0, .string ⟨#[]⟩, .int .i64 0, .int .i64 0, .string ⟨#[]⟩] rfl rfl rfl Tryz.underlying53 rfl T53 HE.out.1 rfl ?_
                exact ⟨by rw [HZZ.out]; rfl, HE.out.2⟩
            · have hT2 : txtB X = false := by simpa using hT
              rw [hT2] at htx
              have HZ : ofK k = ((zS, ⟨#[]⟩), false) := by rw [HRES.out, hT2]; rfl
              have HZZ := hide HZ
              clear HZ hT hT2 hsv
              go_upto_region 8 with (go_at_call 111; refine (htx _).mono ?_; rintro e w2 ⟨rfl, hw⟩; replace hw := hw.symm; subst hw; dsimp only)
              clear hc6 htx
              obtain ⟨e5, bw5⟩ := HC.out W6 (HB0.out.trans (B6.out.mono HB0.out.size))
              obtain ⟨u7, o7⟩ := set6 (.int .i64 0) (.int .i64 0) (.string ⟨#[]⟩) (.int .i64 0) (.int .i64 0) (.string ⟨#[]⟩) e5
              have b7 := Below.only bw5 o7 bw5.size (fun j e => by have e' : j = Rb := e; have := HW0.out.2; omega)
              have HE := hide (And.intro u7 b7)
              have d0 : World.cell? W6 ⟨Rb, 0, none⟩ = some (.int .i64 0) := (cell_of_row _ _ 0 _ 53 (0, 0) e5).trans rfl
              have d1 : World.cell? W6 ⟨Rb, 1, none⟩ = some (.int .i64 0) := (cell_of_row _ _ 1 _ 53 (0, 0) e5).trans rfl
              have d2 : World.cell? W6 ⟨Rb, 2, none⟩ = some (.string ⟨#[]⟩) := (cell_of_row _ _ 2 _ 53 (0, 0) e5).trans rfl
              have d3 : World.cell? W6 ⟨Rb, 3, none⟩ = some (.int .i64 0) := (cell_of_row _ _ 3 _ 53 (0, 0) e5).trans rfl
              have d4 : World.cell? W6 ⟨Rb, 4, none⟩ = some (.int .i64 0) := (cell_of_row _ _ 4 _ 53 (0, 0) e5).trans rfl
              have d5 : World.cell? W6 ⟨Rb, 5, none⟩ = some (.string ⟨#[]⟩) := (cell_of_row _ _ 5 _ 53 (0, 0) e5).trans rfl
              have g0 := frozen_of_row W6 Rb 0 _ 53 e5
              have g1 := frozen_of_row W6 Rb 1 _ 53 e5
              have g2 := frozen_of_row W6 Rb 2 _ 53 e5
              have g3 := frozen_of_row W6 Rb 3 _ 53 e5
              have g4 := frozen_of_row W6 Rb 4 _ 53 e5
              have g5 := frozen_of_row W6 Rb 5 _ 53 e5
              clear u7 o7 e5 bw5 b7
              go_wp2
              refine ret_row_tmp Rb [.int .i64 0, .int .i64 0, .string ⟨#[]⟩, .int .i64 0, .int .i64 0, .string ⟨#[]⟩] rfl rfl rfl Tryz.underlying53 rfl T53 HE.out.1 rfl ?_
              exact ⟨by rw [HZZ.out]; rfl, HE.out.2⟩
        · rw [cutK, if_pos rfl, if_neg hb] at hp2
          have hbz : ¬ (b.toNat : Int) = 0 := fun e => hb (UInt8.toNat_inj.1 (by simpa using e))
          have bq : ((b.toNat : Int) == 0) = false := by simpa using hbz
          obtain ⟨a1, c1, W3, hr1, hO1, hg1⟩ := pushL (HI.out.1.alloc (.cells #[.int .u8 0] 5)) (heap_alloc_new _ _) (by omega) (by have := HI.out.2.size; simp; omega)
          have bl1 := below_own (HI.out.2.alloc HI.out.2.size (.cells #[.int .u8 0] 5)) (by have := HI.out.2.size; simp; omega) (HI.out.1.alloc _) hg1
          have HN := hide (And.intro hO1 bl1)
          have HP := hide (And.intro hp1 hp2)
          clear hO1 hg1 bl1 hp hp1 hp2 HI
          go_wp2_with (at_builtin; refine wpList_turn (OP := .call { callee := .builtin .append, args := #[.tmp 55, .tmp 59], argTypes := #[121, 121] }) (T := 121) rfl rfl rfl (exec_append rfl rfl hr1) ?_)
          go_roundw
          case rel => exact ⟨i + 2, p ++ [0], acc ++ [0], by omega, by simp; omega, by go_num, hide ⟨by rw [HP.out.1]; simp [ints], by rw [hd2]; exact HP.out.2⟩, hide ⟨by simpa using HN.out.1, HN.out.2⟩⟩
          case measure => simp [intOf]; omega
      · rw [cutK, if_neg ha] at hp2
        have haz : ¬ (a.toNat : Int) = 0 := fun e => ha (UInt8.toNat_inj.1 (by simpa using e))
        have aq : ((a.toNat : Int) == 0) = false := by simpa using haz
        clear hxb
        obtain ⟨a1, c1, W3, hr1, hO1, hg1⟩ := pushL (HI.out.1.alloc (.cells #[.int .u8 (a.toNat : Int)] 5)) (heap_alloc_new _ _) (by omega) (by have := HI.out.2.size; simp; omega)
        have bl1 := below_own (HI.out.2.alloc HI.out.2.size (.cells #[.int .u8 (a.toNat : Int)] 5)) (by have := HI.out.2.size; simp; omega) (HI.out.1.alloc _) hg1
        have HN := hide (And.intro hO1 bl1)
        have HP := hide (And.intro hp1 hp2)
        clear hO1 hg1 bl1 hp hp1 hp2 HI
        go_wp2_with (at_builtin; refine wpList_turn (OP := .call { callee := .builtin .append, args := #[.tmp 55, .tmp 59], argTypes := #[121, 121] }) (T := 121) rfl rfl rfl (exec_append rfl rfl hr1) ?_)
        go_roundw
        case rel => exact ⟨i + 1, p ++ [(a.toNat : Int)], acc ++ [a], by omega, by simp; omega, by go_num, hide ⟨by rw [HP.out.1]; simp [ints], by rw [hd1]; exact HP.out.2⟩, hide ⟨by simpa using HN.out.1, HN.out.2⟩⟩
        case measure => simp [intOf]; omega
    · have z1 : ¬ (i : Int) + 1 < (k.size : Int) := by omega
      have hnone : ofK k = ((zS, ⟨#[]⟩), false) := by
        obtain ⟨-, h2⟩ := hp.out
        have h3 : cutK acc (L.drop i) = none := by
          have h4 : (L.drop i).length ≤ 1 := by rw [List.length_drop, HL.out.1]; omega
          cases h5 : L.drop i with
          | nil => rfl
          | cons a m =>
            cases m with
            | nil => rfl
            | cons b l => rw [h5] at h4; simp at h4
        rw [h3] at h2
        unfold ofK
        rw [← HK.out, ← h2]
      have HRES := hide hnone
      clear hnone
      obtain ⟨e5, bw5⟩ := HC.out wr (HI.out.2)
      obtain ⟨u7, o7⟩ := set6 (.int .i64 0) (.int .i64 0) (.string ⟨#[]⟩) (.int .i64 0) (.int .i64 0) (.string ⟨#[]⟩) e5
      have b7 := Below.only bw5 o7 bw5.size (fun j e => by have e' : j = Rb := e; have := HW0.out.2; omega)
      have HE := hide (And.intro u7 b7)
      have d0 : World.cell? wr ⟨Rb, 0, none⟩ = some (.int .i64 0) := (cell_of_row _ _ 0 _ 53 (0, 0) e5).trans rfl
      have d1 : World.cell? wr ⟨Rb, 1, none⟩ = some (.int .i64 0) := (cell_of_row _ _ 1 _ 53 (0, 0) e5).trans rfl
      have d2 : World.cell? wr ⟨Rb, 2, none⟩ = some (.string ⟨#[]⟩) := (cell_of_row _ _ 2 _ 53 (0, 0) e5).trans rfl
      have d3 : World.cell? wr ⟨Rb, 3, none⟩ = some (.int .i64 0) := (cell_of_row _ _ 3 _ 53 (0, 0) e5).trans rfl
      have d4 : World.cell? wr ⟨Rb, 4, none⟩ = some (.int .i64 0) := (cell_of_row _ _ 4 _ 53 (0, 0) e5).trans rfl
      have d5 : World.cell? wr ⟨Rb, 5, none⟩ = some (.string ⟨#[]⟩) := (cell_of_row _ _ 5 _ 53 (0, 0) e5).trans rfl
      have g0 := frozen_of_row wr Rb 0 _ 53 e5
      have g1 := frozen_of_row wr Rb 1 _ 53 e5
      have g2 := frozen_of_row wr Rb 2 _ 53 e5
      have g3 := frozen_of_row wr Rb 3 _ 53 e5
      have g4 := frozen_of_row wr Rb 4 _ 53 e5
      have g5 := frozen_of_row wr Rb 5 _ 53 e5
      clear u7 o7 e5 bw5 b7
      go_wp2
      refine ret_row_tmp Rb [.int .i64 0, .int .i64 0, .string ⟨#[]⟩, .int .i64 0, .int .i64 0, .string ⟨#[]⟩] rfl rfl rfl Tryz.underlying53 rfl T53 HE.out.1 rfl ?_
      exact ⟨by rw [HRES.out]; rfl, HE.out.2⟩
end Go.Proofs.YtkkpdgfllnbigaaGreat.Tg
