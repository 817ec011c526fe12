/-
  tagset: the document's OfKey (43).
  DERIVED: THE SHELF's CONTRACTS AT THIS DUMP, IN PLAIN WORDS (tools/lay-plain.mjs out of 'TryzShelfK.lean', which tools/lay-shelf.mjs wrote): THE SAME DECLARATIONS UNDER THE SAME NAMES: 'import', 'namespace', 'open', 'def', 'theorem' AND NOTHING ELSE: no command of the shelf's: FOR A HAND-IN. Each laying: the table of numbers ('.._ren') and one theorem, a field a fact of the dump's own or the kernel's comparison; each contract: ONE APPLICATION.
-/
import Derived.Test.YtkkpdgfllnbigaaGreatDoorMg14
import Derived.Test.YtkkpdgfllnbigaaGreatDoorMg15
import Derived.Test.YtkkpdgfllnbigaaGreatDoorMg13
import Derived.Test.YtkkpdgfllnbigaaGreatDoorMg12
import Derived.Shelf.Strings.Builder1
import Derived.Shelf.Strings.Builder2
import Derived.Shelf.Strings.Cut
import Derived.Shelf.Strings.Replace
import Derived.Test.YtkkpdgfllnbigaaGreatDoorProg
namespace Go.Proofs.YtkkpdgfllnbigaaGreatDoor.Tg
open Go.RowKit Go.Shelf
set_option linter.unusedSimpArgs false
set_option linter.unusedVariables false
attribute [local go_sem] Oper.semAt_some

theorem pushL {w : World} {B b : Nat} {v : Value} {p : List Int} {c : Int} (hown : Own 5 w B v p) (hcell : w.heap[b]? = some (.cells #[.int .u8 c] 5 (0, 0))) (hp : p.length + 1 ≤ 140737488355328) (hB : B ≤ w.heap.size) :
    ∃ a' c' w', (Builtin.append_ #[64, 64] 64 #[v, .slice (some ⟨b, 0, none⟩) 1 1]).run Tryz.prog w = .ok (.slice a' (p.length + 1) c') w' ∧ Own 5 w' B (.slice a' (p.length + 1) c') (p ++ [c]) ∧ w.grownBy w' v.ownBlock := by
  obtain ⟨i0, hi, hz0, hz1, hz2⟩ := info_parts Tryz.info5
  obtain ⟨v', w', hr, h2, h3, h4⟩ := append_where (P := Tryz.prog) w 64 64 5 i0 (.int .u8 0) 1 1 Tryz.underlying64 hi hz0 hz1 hz2 rfl (by decide) v p.length (u8s p) (hown.lift (Nat.zero_le _)) ⟨b, 0, none⟩ 1 1 [.int .u8 c] (by simp) (fun j u hj => by rw [add_lit, cell_of_row _ _ (0 + j) #[.int .u8 c] 5 (0, 0) hcell, Nat.zero_add]; simpa using hj) (fun u hu => u8s_one (l := [c]) u (by simpa [u8s] using hu)) (by unfold maxLen; omega) (by omega)
  have hO : Own 5 w' 0 v' (p ++ [c]) := by
    unfold Own
    rw [u8s_append, List.length_append]
    exact h2
  obtain ⟨a', c', hv, _, _⟩ := row_form hO
  subst hv
  rw [List.length_append] at hO hr h4
  refine ⟨a', c', w', hr, ?_, h3⟩
  rcases hO with ⟨q1, q2⟩
  refine ⟨q1, ?_⟩
  rcases q2 with q2 | ⟨g, cap, cur, e, hb, r⟩
  · exact .inl q2
  · refine .inr ⟨g, cap, cur, e, ?_, r⟩
    rcases h4 g (by rw [show (Value.slice a' (p.length + [c].length) c') = _ from e]; rfl) with h | h
    · exact (World.ownsRow.lt hown g h).1
    · omega
theorem set6 {w : World} {B : Nat} {x0 x1 x2 x3 x4 x5 : Value} {ty : TypeId} (a b c d e f : Value) (h : w.heap[B]? = some (.cells #[x0, x1, x2, x3, x4, x5] ty (0, 0))) : (World.setCell (World.setCell (World.setCell (World.setCell (World.setCell (World.setCell w ⟨B, 0, none⟩ a) ⟨B, 1, none⟩ b) ⟨B, 2, none⟩ c) ⟨B, 3, none⟩ d) ⟨B, 4, none⟩ e) ⟨B, 5, none⟩ f).heap[B]? = some (.cells #[a, b, c, d, e, f] ty (0, 0)) ∧ Only (fun j => j = B) w (World.setCell (World.setCell (World.setCell (World.setCell (World.setCell (World.setCell w ⟨B, 0, none⟩ a) ⟨B, 1, none⟩ b) ⟨B, 2, none⟩ c) ⟨B, 3, none⟩ d) ⟨B, 4, none⟩ e) ⟨B, 5, none⟩ f) := by
  obtain ⟨h1, o1⟩ := set_one (i := 0) a h
  obtain ⟨h2, o2⟩ := set_one (i := 1) b h1
  obtain ⟨h3, o3⟩ := set_one (i := 2) c h2
  obtain ⟨h4, o4⟩ := set_one (i := 3) d h3
  obtain ⟨h5, o5⟩ := set_one (i := 4) e h4
  obtain ⟨h6, o6⟩ := set_one (i := 5) f h5
  exact ⟨by simpa using h6, ((((o1.next o2).next o3).next o4).next o5).next o6⟩
theorem T53 : (Tryz.prog.info? 33).map (·.size) = some 6 := by kernel_rfl
set_option maxHeartbeats 4000000 in
set_option maxRecDepth 100000 in
theorem ofKey27 (k : ByteArray) (w : World) (hk : k.size ≤ 140737488355328) : Calls Tryz.prog 7 #[.string k] w fun e w' => e = .returned (.tuple #[ev (ofK k).1, .bool (ofK k).2]) ∧ Below w.heap.size w w' := by
  obtain ⟨w0, hw0⟩ : ∃ q, q = w.alloc (.cells #[.int .i64 0, .int .i64 0, .string ⟨#[]⟩, .int .i64 0, .int .i64 0, .string ⟨#[]⟩] 33) := ⟨_, rfl⟩
  have m := heap_alloc_new w (.cells #[.int .i64 0, .int .i64 0, .string ⟨#[]⟩, .int .i64 0, .int .i64 0, .string ⟨#[]⟩] 33)
  have b0 : Below w.heap.size w (w.alloc (.cells #[.int .i64 0, .int .i64 0, .string ⟨#[]⟩, .int .i64 0, .int .i64 0, .string ⟨#[]⟩] 33)) := (Below.refl _ w).alloc (Nat.le_refl _) _
  rw [← hw0] at m b0
  obtain ⟨Rb, hRb⟩ : ∃ q, q = w.heap.size := ⟨_, rfl⟩
  rw [← hRb] at m
  have HC : Hid (∀ W, Below w0.heap.size w0 W → W.heap[Rb]? = some (.cells #[.int .i64 0, .int .i64 0, .string ⟨#[]⟩, .int .i64 0, .int .i64 0, .string ⟨#[]⟩] 33 (0, 0)) ∧ Below w.heap.size w W) := hide (fun W hW => ⟨(hW.block _ (gI m).1).trans m, b0.trans (hW.mono b0.size)⟩)
  have HW0 := hide (And.intro hw0 hRb)
  obtain ⟨L, hL⟩ : ∃ q, q = k.data.toList := ⟨_, rfl⟩
  have hLs : L.length = k.size := by rw [hL]; rfl
  have hix : ∀ (j : Nat) (c : UInt8), L[j]? = some c → ∀ W, (Instr.index 9 (.string k) (.int .i64 (j : Int))).run Tryz.prog W = .ok (.int .u8 (c.toNat : Int)) W := fun j c hc W => by
    have hj : j < k.size := by rw [← hLs]; exact (List.getElem?_eq_some_iff.1 hc).1
    obtain ⟨x, hx, -, -, hr⟩ := at_string k j hj
    rw [hr W, hx]
    rw [hL, List.getElem?_eq_getElem (by simpa using hj)] at hc
    injection hc with hc
    rw [← hc]
    rfl
  have hdr : ∀ j, j + 1 < k.size → ∃ a b l, L.drop j = a :: b :: l := fun j hj => by
    cases h1 : L.drop j with
    | nil => have := congrArg List.length h1; rw [List.length_drop] at this; simp at this; omega
    | cons a m1 =>
      cases m1 with
      | nil => have := congrArg List.length h1; rw [List.length_drop] at this; simp at this; omega
      | cons b l => exact ⟨a, b, l, rfl⟩
  have hix2 : ∀ (j : Nat) (c : UInt8), (L.drop j)[0]? = some c → ∀ W, (Instr.index 9 (.string k) (.int .i64 (j : Int))).run Tryz.prog W = .ok (.int .u8 (c.toNat : Int)) W := fun j c hc W => hix j c (by rw [List.getElem?_drop] at hc; exact hc) W
  have HL := hide (And.intro hLs (And.intro hdr hix2))
  have HK := hide hL
  clear m b0 hw0 hRb hL hLs hix hdr hix2
  go_enter Tryz.func7, Tryz.ntmps7
  go_upto_region 1 with fail
  rw [← HW0.out.1, ← HW0.out.2]
  go_wp2
  go_loopw [4, 5] (fun v4 v5 wr => ∃ (i : Nat) (p : List Int) (acc : List UInt8), i ≤ k.size ∧ p.length ≤ i ∧ v5 = .int .i64 (i : Nat) ∧ Hid (p = ints acc ∧ cutK acc (L.drop i) = cutK [] L) ∧ Hid (Own 5 wr w0.heap.size v4 p ∧ Below w0.heap.size w0 wr)) (fun _ v5 _ => k.size - (intOf v5).toNat)
  case atStart => exact ⟨0, [], [], Nat.zero_le _, Nat.le_refl _, rfl, hide ⟨rfl, rfl⟩, hide ⟨Own.nil 5 _ _, Below.refl _ _⟩⟩
  case round =>
    obtain ⟨i, p, acc, hi, hpl, rfl, hp, HI⟩ := hrel
    by_cases hgo : i + 1 < k.size
    · have z1 : (i : Int) + 1 < (k.size : Int) := by omega
      obtain ⟨a, b, l, hd⟩ := HL.out.2.1 i hgo
      have hxa := HL.out.2.2 i a (by rw [hd]; rfl)
      have hd1 : L.drop (i + 1) = b :: l := by have h := congrArg (List.drop 1) hd; rw [List.drop_drop] at h; simpa using h
      have hd2 : L.drop (i + 2) = l := by have h := congrArg (List.drop 2) hd; rw [List.drop_drop] at h; simpa using h
      have hxb : ∀ W, (Instr.index 9 (.string k) (.int .i64 ((i : Int) + 1))).run Tryz.prog W = .ok (.int .u8 (b.toNat : Int)) W := fun W => HL.out.2.2 (i + 1) b (by rw [hd1]; rfl) W
      obtain ⟨hp1, hp2⟩ := hp.out
      rw [hd] at hp2
      by_cases ha : a = 0
      · subst ha
        by_cases hb : b = 0
        · subst hb
          rw [cutK, if_pos rfl, if_pos rfl] at hp2
          go_upto_region 6 with fail
          obtain ⟨RS, hRS⟩ : ∃ q : ByteArray, q = ⟨l.toArray⟩ := ⟨_, rfl⟩
          obtain ⟨X, hX⟩ : ∃ q : ByteArray, q = ⟨acc.toArray⟩ := ⟨_, rfl⟩
          have hext : k.extract (i + 2) k.size = RS := by
            rw [hRS, ← hd2, HK.out]
            apply ba_eq
            simp [ByteArray.data_extract, List.take_of_length_le]
          have hRSn : RS.size ≤ 9223372036854775807 := by
            rw [← hext, ByteArray.size_extract]; omega
          have hcv : ∀ W, Below wr.heap.size wr W → (convert 64 9 u4).run Tryz.prog W = .ok (.string X) W := fun W hW => by
            obtain ⟨a2, c2, hv2, hrd2, -⟩ := HI.out.1.shape
            rw [hv2, conv_rd (hrd2.below hW) rfl, hp1, str_ints, hX]
          have hres : ofK k = if (okV RS && (txtB X && decide (tkey X (ofT RS) = k))) = true then ((ofT RS, X), true) else ((zS, ⟨#[]⟩), false) := by
            unfold ofK
            rw [← HK.out, ← hp2, hRS, hX]
          have hq : ∀ W, Calls Tryz.prog 26 #[.string RS] W fun e w' => e = .returned (.tuple #[svT (ofT RS), .int .i64 (if okV RS then 0 else 4)]) ∧ Below W.heap.size W w' := fun W => refOfKey_any RS W hRSn
          have hsv : okV RS = true → stV (ofT RS) = true := fun h => (okV_of h).2
          obtain ⟨S, hS⟩ : ∃ q, q = ofT RS := ⟨_, rfl⟩
          rw [← hS] at hres hq hsv
          obtain ⟨V, hV⟩ : ∃ q, q = okV RS := ⟨_, rfl⟩
          rw [← hV] at hres hq hsv
          have HRES := hide hres
          have HCV := hide hcv
          have HB0 := hide HI.out.2
          have HSV := hide hsv
          have hq1 := hq wr
          clear hres hcv hRS hX hd hd1 hd2 hp hp1 hp2 hxa hxb hS hV hsv hq hRSn HI hpl hi
          obtain ⟨g, r, lb, n, ix⟩ := S
          dsimp only [svT, sv] at hq1
          cases V with
          | false =>
            rw [show (if false = true then (0 : Int) else 4) = 4 from rfl] at hq1
            go_upto_region 8 with (go_at_call 26; (try rw [hext]); refine hq1.mono ?_; rintro e w1 ⟨rfl, b1⟩; have H1 := hide b1; clear b1; dsimp only)
            obtain ⟨W6, hW6⟩ : ∃ q, q = w1.alloc (.cells #[.int .i64 g, .int .i64 r, .string lb, .int .i64 n, .int .i64 ix] 27) := ⟨_, rfl⟩
            have d6 : Below w1.heap.size w1 W6 := by rw [hW6]; exact (Below.refl _ w1).alloc (Nat.le_refl _) _
            have m6 := heap_alloc_new w1 (.cells #[.int .i64 g, .int .i64 r, .string lb, .int .i64 n, .int .i64 ix] 27)
            obtain ⟨Sb, hSb⟩ : ∃ q, q = w1.heap.size := ⟨_, rfl⟩
            rw [← hW6, ← hSb] at m6
            rw [← hW6, ← hSb]
            have B6 := hide (H1.out.trans (d6.mono H1.out.size))
            clear hW6 d6 m6 hSb hq1
            obtain ⟨e5, bw5⟩ := HC.out W6 (HB0.out.trans (B6.out.mono HB0.out.size))
            obtain ⟨u7, o7⟩ := set6 (.int .i64 0) (.int .i64 0) (.string ⟨#[]⟩) (.int .i64 0) (.int .i64 0) (.string ⟨#[]⟩) e5
            have b7 := Below.only bw5 o7 bw5.size (fun j e => by have e' : j = Rb := e; have := HW0.out.2; omega)
            have HE := hide (And.intro u7 b7)
            have d0 : World.cell? W6 ⟨Rb, 0, none⟩ = some (.int .i64 0) := (cell_of_row _ _ 0 _ 33 (0, 0) e5).trans rfl
            have d1 : World.cell? W6 ⟨Rb, 1, none⟩ = some (.int .i64 0) := (cell_of_row _ _ 1 _ 33 (0, 0) e5).trans rfl
            have d2 : World.cell? W6 ⟨Rb, 2, none⟩ = some (.string ⟨#[]⟩) := (cell_of_row _ _ 2 _ 33 (0, 0) e5).trans rfl
            have d3 : World.cell? W6 ⟨Rb, 3, none⟩ = some (.int .i64 0) := (cell_of_row _ _ 3 _ 33 (0, 0) e5).trans rfl
            have d4 : World.cell? W6 ⟨Rb, 4, none⟩ = some (.int .i64 0) := (cell_of_row _ _ 4 _ 33 (0, 0) e5).trans rfl
            have d5 : World.cell? W6 ⟨Rb, 5, none⟩ = some (.string ⟨#[]⟩) := (cell_of_row _ _ 5 _ 33 (0, 0) e5).trans rfl
            have g0 := frozen_of_row W6 Rb 0 _ 33 e5
            have g1 := frozen_of_row W6 Rb 1 _ 33 e5
            have g2 := frozen_of_row W6 Rb 2 _ 33 e5
            have g3 := frozen_of_row W6 Rb 3 _ 33 e5
            have g4 := frozen_of_row W6 Rb 4 _ 33 e5
            have g5 := frozen_of_row W6 Rb 5 _ 33 e5
            clear u7 o7 e5 bw5 b7
            go_wp2
            have HZ : ofK k = ((zS, ⟨#[]⟩), false) := by rw [HRES.out]; rfl
            refine ret_row_tmp Rb [.int .i64 0, .int .i64 0, .string ⟨#[]⟩, .int .i64 0, .int .i64 0, .string ⟨#[]⟩] rfl rfl rfl Tryz.underlying33 rfl T53 HE.out.1 rfl ?_
            exact ⟨by rw [HZ]; rfl, HE.out.2⟩
          | true =>
            rw [show (if true = true then (0 : Int) else 4) = 0 from rfl] at hq1
            have hsv := HSV.out rfl
            go_upto_region 7 with (go_at_call 26; (try rw [hext]); refine hq1.mono ?_; rintro e w1 ⟨rfl, b1⟩; have H1 := hide b1; clear b1; dsimp only)
            obtain ⟨W6, hW6⟩ : ∃ q, q = w1.alloc (.cells #[.int .i64 g, .int .i64 r, .string lb, .int .i64 n, .int .i64 ix] 27) := ⟨_, rfl⟩
            have d6 : Below w1.heap.size w1 W6 := by rw [hW6]; exact (Below.refl _ w1).alloc (Nat.le_refl _) _
            have m6 := heap_alloc_new w1 (.cells #[.int .i64 g, .int .i64 r, .string lb, .int .i64 n, .int .i64 ix] 27)
            obtain ⟨Sb, hSb⟩ : ∃ q, q = w1.heap.size := ⟨_, rfl⟩
            rw [← hW6, ← hSb] at m6
            rw [← hW6, ← hSb]
            have B6 := hide (H1.out.trans (d6.mono H1.out.size))
            have hc6 := HCV.out W6 B6.out
            have htx := refText_any X
            have HM6 : Hid (∀ W, Below W6.heap.size W6 W → W.cell? ⟨Sb, 0, none⟩ = some (.int .i64 g) ∧ W.cell? ⟨Sb, 1, none⟩ = some (.int .i64 r) ∧ W.cell? ⟨Sb, 2, none⟩ = some (.string lb) ∧ W.cell? ⟨Sb, 3, none⟩ = some (.int .i64 n) ∧ W.cell? ⟨Sb, 4, none⟩ = some (.int .i64 ix)) := hide (fun W hW => by
              have q := (hW.block _ (gI m6).1).trans m6
              exact ⟨(cell_of_row _ _ 0 _ 27 (0, 0) q).trans rfl, (cell_of_row _ _ 1 _ 27 (0, 0) q).trans rfl, (cell_of_row _ _ 2 _ 27 (0, 0) q).trans rfl, (cell_of_row _ _ 3 _ 27 (0, 0) q).trans rfl, (cell_of_row _ _ 4 _ 27 (0, 0) q).trans rfl⟩)
            clear hW6 d6 m6 hSb hq1
            by_cases hT : txtB X = true
            · have hX6 : X.size ≤ 256 := by unfold txtB at hT; simpa using hT
              have hky := key122 X (g, r, lb, n, ix) W6 hX6 hsv
              dsimp only [svT, sv] at hky
              obtain ⟨s0, s1, s2, s3, s4⟩ := HM6.out W6 (Below.refl _ _)
              rw [hT] at htx
              by_cases hK : tkey X (g, r, lb, n, ix) = k
              · have bq : ((tkey X (g, r, lb, n, ix)).toList == k.toList) = true := by rw [bytes_same]; exact hK
                have HZ : ofK k = (((g, r, lb, n, ix), X), true) := by rw [HRES.out, hT, decide_eq_true hK]; rfl
                have HZZ := hide HZ
                clear HZ hK hT hX6 hsv
                go_upto_region 9 with (first | (go_at_call 8; refine (htx _).mono ?_; rintro e w2 ⟨rfl, hw⟩; replace hw := hw.symm; subst hw; dsimp only) | (go_at_call 11; refine hky.mono ?_; rintro e w3 ⟨rfl, b3⟩; have H3 := hide b3; clear b3; dsimp only))
                have hc3 := HCV.out w3 (B6.out.trans (H3.out.mono B6.out.size))
                obtain ⟨t0, t1, t2, t3, t4⟩ := HM6.out w3 H3.out
                clear hc6 s0 s1 s2 s3 s4 hky htx
                obtain ⟨e5, bw5⟩ := HC.out w3 (HB0.out.trans ((B6.out.trans (H3.out.mono B6.out.size)).mono HB0.out.size))
                obtain ⟨u7, o7⟩ := set6 (.int .i64 g) (.int .i64 r) (.string lb) (.int .i64 n) (.int .i64 ix) (.string X) e5
                have b7 := Below.only bw5 o7 bw5.size (fun j e => by have e' : j = Rb := e; have := HW0.out.2; omega)
                have HE := hide (And.intro u7 b7)
                have d0 : World.cell? w3 ⟨Rb, 0, none⟩ = some (.int .i64 0) := (cell_of_row _ _ 0 _ 33 (0, 0) e5).trans rfl
                have d1 : World.cell? w3 ⟨Rb, 1, none⟩ = some (.int .i64 0) := (cell_of_row _ _ 1 _ 33 (0, 0) e5).trans rfl
                have d2 : World.cell? w3 ⟨Rb, 2, none⟩ = some (.string ⟨#[]⟩) := (cell_of_row _ _ 2 _ 33 (0, 0) e5).trans rfl
                have d3 : World.cell? w3 ⟨Rb, 3, none⟩ = some (.int .i64 0) := (cell_of_row _ _ 3 _ 33 (0, 0) e5).trans rfl
                have d4 : World.cell? w3 ⟨Rb, 4, none⟩ = some (.int .i64 0) := (cell_of_row _ _ 4 _ 33 (0, 0) e5).trans rfl
                have d5 : World.cell? w3 ⟨Rb, 5, none⟩ = some (.string ⟨#[]⟩) := (cell_of_row _ _ 5 _ 33 (0, 0) e5).trans rfl
                have g0 := frozen_of_row w3 Rb 0 _ 33 e5
                have g1 := frozen_of_row w3 Rb 1 _ 33 e5
                have g2 := frozen_of_row w3 Rb 2 _ 33 e5
                have g3 := frozen_of_row w3 Rb 3 _ 33 e5
                have g4 := frozen_of_row w3 Rb 4 _ 33 e5
                have g5 := frozen_of_row w3 Rb 5 _ 33 e5
                clear u7 o7 e5 bw5 b7
                go_wp2
                refine ret_row_tmp Rb [.int .i64 g, .int .i64 r, .string lb, .int .i64 n, .int .i64 ix, .string X] rfl rfl rfl Tryz.underlying33 rfl T53 HE.out.1 rfl ?_
                exact ⟨by rw [HZZ.out]; rfl, HE.out.2⟩
              · have bq : ((tkey X (g, r, lb, n, ix)).toList == k.toList) = false := by rw [Bool.eq_false_iff, Ne, bytes_same]; exact hK
                have HZ : ofK k = ((zS, ⟨#[]⟩), false) := by rw [HRES.out, hT, decide_eq_false hK]; rfl
                have HZZ := hide HZ
                clear HZ hK hT hX6 hsv
                go_upto_region 8 with (first | (go_at_call 8; refine (htx _).mono ?_; rintro e w2 ⟨rfl, hw⟩; replace hw := hw.symm; subst hw; dsimp only) | (go_at_call 11; refine hky.mono ?_; rintro e w3 ⟨rfl, b3⟩; have H3 := hide b3; clear b3; dsimp only))
                clear hc6 s0 s1 s2 s3 s4 hky htx
                obtain ⟨e5, bw5⟩ := HC.out w3 (HB0.out.trans ((B6.out.trans (H3.out.mono B6.out.size)).mono HB0.out.size))
                obtain ⟨u7, o7⟩ := set6 (.int .i64 0) (.int .i64 0) (.string ⟨#[]⟩) (.int .i64 0) (.int .i64 0) (.string ⟨#[]⟩) e5
                have b7 := Below.only bw5 o7 bw5.size (fun j e => by have e' : j = Rb := e; have := HW0.out.2; omega)
                have HE := hide (And.intro u7 b7)
                have d0 : World.cell? w3 ⟨Rb, 0, none⟩ = some (.int .i64 0) := (cell_of_row _ _ 0 _ 33 (0, 0) e5).trans rfl
                have d1 : World.cell? w3 ⟨Rb, 1, none⟩ = some (.int .i64 0) := (cell_of_row _ _ 1 _ 33 (0, 0) e5).trans rfl
                have d2 : World.cell? w3 ⟨Rb, 2, none⟩ = some (.string ⟨#[]⟩) := (cell_of_row _ _ 2 _ 33 (0, 0) e5).trans rfl
                have d3 : World.cell? w3 ⟨Rb, 3, none⟩ = some (.int .i64 0) := (cell_of_row _ _ 3 _ 33 (0, 0) e5).trans rfl
                have d4 : World.cell? w3 ⟨Rb, 4, none⟩ = some (.int .i64 0) := (cell_of_row _ _ 4 _ 33 (0, 0) e5).trans rfl
                have d5 : World.cell? w3 ⟨Rb, 5, none⟩ = some (.string ⟨#[]⟩) := (cell_of_row _ _ 5 _ 33 (0, 0) e5).trans rfl
                have g0 := frozen_of_row w3 Rb 0 _ 33 e5
                have g1 := frozen_of_row w3 Rb 1 _ 33 e5
                have g2 := frozen_of_row w3 Rb 2 _ 33 e5
                have g3 := frozen_of_row w3 Rb 3 _ 33 e5
                have g4 := frozen_of_row w3 Rb 4 _ 33 e5
                have g5 := frozen_of_row w3 Rb 5 _ 33 e5
                clear u7 o7 e5 bw5 b7
                go_wp2
                refine ret_row_tmp Rb [.int .i64 0, .int .i64 0, .string ⟨#[]⟩, .int .i64 0, .int .i64 0, .string ⟨#[]⟩] rfl rfl rfl Tryz.underlying33 rfl T53 HE.out.1 rfl ?_
                exact ⟨by rw [HZZ.out]; rfl, HE.out.2⟩
            · have hT2 : txtB X = false := by simpa using hT
              rw [hT2] at htx
              have HZ : ofK k = ((zS, ⟨#[]⟩), false) := by rw [HRES.out, hT2]; rfl
              have HZZ := hide HZ
              clear HZ hT hT2 hsv
              go_upto_region 8 with (go_at_call 8; refine (htx _).mono ?_; rintro e w2 ⟨rfl, hw⟩; replace hw := hw.symm; subst hw; dsimp only)
              clear hc6 htx
              obtain ⟨e5, bw5⟩ := HC.out W6 (HB0.out.trans (B6.out.mono HB0.out.size))
              obtain ⟨u7, o7⟩ := set6 (.int .i64 0) (.int .i64 0) (.string ⟨#[]⟩) (.int .i64 0) (.int .i64 0) (.string ⟨#[]⟩) e5
              have b7 := Below.only bw5 o7 bw5.size (fun j e => by have e' : j = Rb := e; have := HW0.out.2; omega)
              have HE := hide (And.intro u7 b7)
              have d0 : World.cell? W6 ⟨Rb, 0, none⟩ = some (.int .i64 0) := (cell_of_row _ _ 0 _ 33 (0, 0) e5).trans rfl
              have d1 : World.cell? W6 ⟨Rb, 1, none⟩ = some (.int .i64 0) := (cell_of_row _ _ 1 _ 33 (0, 0) e5).trans rfl
              have d2 : World.cell? W6 ⟨Rb, 2, none⟩ = some (.string ⟨#[]⟩) := (cell_of_row _ _ 2 _ 33 (0, 0) e5).trans rfl
              have d3 : World.cell? W6 ⟨Rb, 3, none⟩ = some (.int .i64 0) := (cell_of_row _ _ 3 _ 33 (0, 0) e5).trans rfl
              have d4 : World.cell? W6 ⟨Rb, 4, none⟩ = some (.int .i64 0) := (cell_of_row _ _ 4 _ 33 (0, 0) e5).trans rfl
              have d5 : World.cell? W6 ⟨Rb, 5, none⟩ = some (.string ⟨#[]⟩) := (cell_of_row _ _ 5 _ 33 (0, 0) e5).trans rfl
              have g0 := frozen_of_row W6 Rb 0 _ 33 e5
              have g1 := frozen_of_row W6 Rb 1 _ 33 e5
              have g2 := frozen_of_row W6 Rb 2 _ 33 e5
              have g3 := frozen_of_row W6 Rb 3 _ 33 e5
              have g4 := frozen_of_row W6 Rb 4 _ 33 e5
              have g5 := frozen_of_row W6 Rb 5 _ 33 e5
              clear u7 o7 e5 bw5 b7
              go_wp2
              refine ret_row_tmp Rb [.int .i64 0, .int .i64 0, .string ⟨#[]⟩, .int .i64 0, .int .i64 0, .string ⟨#[]⟩] rfl rfl rfl Tryz.underlying33 rfl T53 HE.out.1 rfl ?_
              exact ⟨by rw [HZZ.out]; rfl, HE.out.2⟩
        · rw [cutK, if_pos rfl, if_neg hb] at hp2
          have hbz : ¬ (b.toNat : Int) = 0 := fun e => hb (UInt8.toNat_inj.1 (by simpa using e))
          have bq : ((b.toNat : Int) == 0) = false := by simpa using hbz
          obtain ⟨a1, c1, W3, hr1, hO1, hg1⟩ := pushL (HI.out.1.alloc (.cells #[.int .u8 0] 5)) (heap_alloc_new _ _) (by omega) (by have := HI.out.2.size; simp; omega)
          have bl1 := below_own (HI.out.2.alloc HI.out.2.size (.cells #[.int .u8 0] 5)) (by have := HI.out.2.size; simp; omega) (HI.out.1.alloc _) hg1
          have HN := hide (And.intro hO1 bl1)
          have HP := hide (And.intro hp1 hp2)
          clear hO1 hg1 bl1 hp hp1 hp2 HI
          go_wp2_with (at_builtin; refine wpList_turn (OP := .call { callee := .builtin .append, args := #[.tmp 55, .tmp 59], argTypes := #[64, 64] }) (T := 64) rfl rfl rfl (exec_append rfl rfl hr1) ?_)
          go_roundw
          case rel => exact ⟨i + 2, p ++ [0], acc ++ [0], by omega, by simp; omega, by go_num, hide ⟨by rw [HP.out.1]; simp [ints], by rw [hd2]; exact HP.out.2⟩, hide ⟨by simpa using HN.out.1, HN.out.2⟩⟩
          case measure => simp [intOf]; omega
      · rw [cutK, if_neg ha] at hp2
        have haz : ¬ (a.toNat : Int) = 0 := fun e => ha (UInt8.toNat_inj.1 (by simpa using e))
        have aq : ((a.toNat : Int) == 0) = false := by simpa using haz
        clear hxb
        obtain ⟨a1, c1, W3, hr1, hO1, hg1⟩ := pushL (HI.out.1.alloc (.cells #[.int .u8 (a.toNat : Int)] 5)) (heap_alloc_new _ _) (by omega) (by have := HI.out.2.size; simp; omega)
        have bl1 := below_own (HI.out.2.alloc HI.out.2.size (.cells #[.int .u8 (a.toNat : Int)] 5)) (by have := HI.out.2.size; simp; omega) (HI.out.1.alloc _) hg1
        have HN := hide (And.intro hO1 bl1)
        have HP := hide (And.intro hp1 hp2)
        clear hO1 hg1 bl1 hp hp1 hp2 HI
        go_wp2_with (at_builtin; refine wpList_turn (OP := .call { callee := .builtin .append, args := #[.tmp 55, .tmp 59], argTypes := #[64, 64] }) (T := 64) rfl rfl rfl (exec_append rfl rfl hr1) ?_)
        go_roundw
        case rel => exact ⟨i + 1, p ++ [(a.toNat : Int)], acc ++ [a], by omega, by simp; omega, by go_num, hide ⟨by rw [HP.out.1]; simp [ints], by rw [hd1]; exact HP.out.2⟩, hide ⟨by simpa using HN.out.1, HN.out.2⟩⟩
        case measure => simp [intOf]; omega
    · have z1 : ¬ (i : Int) + 1 < (k.size : Int) := by omega
      have hnone : ofK k = ((zS, ⟨#[]⟩), false) := by
        obtain ⟨-, h2⟩ := hp.out
        have h3 : cutK acc (L.drop i) = none := by
          have h4 : (L.drop i).length ≤ 1 := by rw [List.length_drop, HL.out.1]; omega
          cases h5 : L.drop i with
          | nil => rfl
          | cons a m =>
            cases m with
            | nil => rfl
            | cons b l => rw [h5] at h4; simp at h4
        rw [h3] at h2
        unfold ofK
        rw [← HK.out, ← h2]
      have HRES := hide hnone
      clear hnone
      obtain ⟨e5, bw5⟩ := HC.out wr (HI.out.2)
      obtain ⟨u7, o7⟩ := set6 (.int .i64 0) (.int .i64 0) (.string ⟨#[]⟩) (.int .i64 0) (.int .i64 0) (.string ⟨#[]⟩) e5
      have b7 := Below.only bw5 o7 bw5.size (fun j e => by have e' : j = Rb := e; have := HW0.out.2; omega)
      have HE := hide (And.intro u7 b7)
      have d0 : World.cell? wr ⟨Rb, 0, none⟩ = some (.int .i64 0) := (cell_of_row _ _ 0 _ 33 (0, 0) e5).trans rfl
      have d1 : World.cell? wr ⟨Rb, 1, none⟩ = some (.int .i64 0) := (cell_of_row _ _ 1 _ 33 (0, 0) e5).trans rfl
      have d2 : World.cell? wr ⟨Rb, 2, none⟩ = some (.string ⟨#[]⟩) := (cell_of_row _ _ 2 _ 33 (0, 0) e5).trans rfl
      have d3 : World.cell? wr ⟨Rb, 3, none⟩ = some (.int .i64 0) := (cell_of_row _ _ 3 _ 33 (0, 0) e5).trans rfl
      have d4 : World.cell? wr ⟨Rb, 4, none⟩ = some (.int .i64 0) := (cell_of_row _ _ 4 _ 33 (0, 0) e5).trans rfl
      have d5 : World.cell? wr ⟨Rb, 5, none⟩ = some (.string ⟨#[]⟩) := (cell_of_row _ _ 5 _ 33 (0, 0) e5).trans rfl
      have g0 := frozen_of_row wr Rb 0 _ 33 e5
      have g1 := frozen_of_row wr Rb 1 _ 33 e5
      have g2 := frozen_of_row wr Rb 2 _ 33 e5
      have g3 := frozen_of_row wr Rb 3 _ 33 e5
      have g4 := frozen_of_row wr Rb 4 _ 33 e5
      have g5 := frozen_of_row wr Rb 5 _ 33 e5
      clear u7 o7 e5 bw5 b7
      go_wp2
      refine ret_row_tmp Rb [.int .i64 0, .int .i64 0, .string ⟨#[]⟩, .int .i64 0, .int .i64 0, .string ⟨#[]⟩] rfl rfl rfl Tryz.underlying33 rfl T53 HE.out.1 rfl ?_
      exact ⟨by rw [HRES.out]; rfl, HE.out.2⟩
end Go.Proofs.YtkkpdgfllnbigaaGreatDoor.Tg
namespace Go.Proofs
open Go.Shelf
def Tryz.lays145_ren : Go.Shelf.Ren := ⟨fun | 145 => 23 | 220 => 39 | 219 => 61 | 217 => 87 | 225 => 88 | 224 => 89 | 267 => 90 | 266 => 102 | 314 => 103 | n => n, fun | 9 => 9 | 4 => 4 | 59 => 59 | 3 => 3 | 5 => 5 | 46 => 122 | 146 => 145 | 51 => 144 | n => n, fun | 1 => 0 | n => n⟩
theorem Tryz.lays145 : Go.Proofs.Lays.n145 Tryz.prog Tryz.lays145_ren := {
  mixed := by kernel_rfl
  f145 := Tryz.func23.trans (congrArg some (by kernel_rfl))
  f217 := Tryz.func87.trans (congrArg some (by kernel_rfl))
  f219 := Tryz.func61.trans (congrArg some (by kernel_rfl))
  f220 := Tryz.func39.trans (congrArg some (by kernel_rfl))
  f224 := Tryz.func89.trans (congrArg some (by kernel_rfl))
  f225 := Tryz.func88.trans (congrArg some (by kernel_rfl))
  f266 := Tryz.func102.trans (congrArg some (by kernel_rfl))
  f267 := Tryz.func90.trans (congrArg some (by kernel_rfl))
  f314 := Tryz.func103.trans (congrArg some (by kernel_rfl))
  t3 := Tryz.underlying3
  a3 := Tryz.isAgg3
  z3 := Tryz.sizeOf3
  v3 := Tryz.zeroValue3
  t4 := Tryz.underlying4
  a4 := Tryz.isAgg4
  z4 := Tryz.sizeOf4
  v4 := Tryz.zeroValue4
  t5 := Tryz.underlying5
  a5 := Tryz.isAgg5
  z5 := Tryz.sizeOf5
  v5 := Tryz.zeroValue5
  t9 := Tryz.underlying9
  a9 := Tryz.isAgg9
  z9 := Tryz.sizeOf9
  v9 := Tryz.zeroValue9
  t46 := Tryz.underlying122
  a46 := Tryz.isAgg122
  z46 := Tryz.sizeOf122
  v46 := Tryz.zeroValue122
  t51 := Tryz.underlying144
  a51 := Tryz.isAgg144
  z51 := Tryz.sizeOf144
  v51 := Tryz.zeroValue144
  t59 := Tryz.underlying59
  a59 := Tryz.isAgg59
  z59 := Tryz.sizeOf59
  v59 := Tryz.zeroValue59
  t146 := Tryz.underlying145
  a146 := Tryz.isAgg145
  z146 := Tryz.sizeOf145
  v146 := Tryz.zeroValue145
  g1 := by kernel_rfl }
open Go.RowKit Go.Lib in
/-- strings.Cut: "Cut slices s around the first instance of sep, returning the text before and after sep. The found result reports whether sep appears in s. If sep does not appear in s, cut returns s, "", false.": IT RETURNS 'Lib.cut s sep'; the world is as it was but for the count of draws. (LAID: no walk: one application.) -/
theorem Tryz.strings_Cut (s sep : ByteArray) (m : Int) (w : World) (hs : s.size < 4294967281) (hm : w.cell? ⟨0, 0, none⟩ = some (.int .i64 m)) :
    Calls Tryz.prog 23 #[.string s, .string sep] w fun e w' => e = .returned (.tuple #[.string ⟨(Lib.cut s.data.toList sep.data.toList).1.toArray⟩, .string ⟨(Lib.cut s.data.toList sep.data.toList).2.1.toArray⟩, .bool (Lib.cut s.data.toList sep.data.toList).2.2]) ∧ ∃ n, w' = w.drewN n := Any.strings_Cut Tryz.lays145 s sep m w hs hm
def Tryz.lays155_ren : Go.Shelf.Ren := ⟨fun | 155 => 24 | 154 => 40 | 138 => 62 | 165 => 63 | 143 => 64 | 166 => 65 | 197 => 66 | 169 => 67 | 195 => 91 | 218 => 92 | 240 => 93 | 241 => 94 | 219 => 61 | 260 => 95 | 276 => 104 | 277 => 105 | 217 => 87 | 225 => 88 | 224 => 89 | 267 => 90 | 266 => 102 | 314 => 103 | n => n, fun | 9 => 9 | 3 => 3 | 4 => 4 | 72 => 113 | 0 => 0 | 76 => 117 | 105 => 119 | 21 => 21 | 5 => 5 | 70 => 111 | 20 => 20 | 37 => 64 | 75 => 116 | 127 => 141 | 164 => 147 | 46 => 122 | 119 => 150 | 139 => 153 | 138 => 152 | 146 => 145 | 51 => 144 | 80 => 100 | n => n, fun | 1 => 0 | 3 => 1 | 4 => 2 | n => n⟩
theorem Tryz.lays155 : Go.Proofs.Lays.n155 Tryz.prog Tryz.lays155_ren := {
  mixed := by kernel_rfl
  f138 := Tryz.func62.trans (congrArg some (by kernel_rfl))
  f143 := Tryz.func64.trans (congrArg some (by kernel_rfl))
  f154 := Tryz.func40.trans (congrArg some (by kernel_rfl))
  f155 := Tryz.func24.trans (congrArg some (by kernel_rfl))
  f165 := Tryz.func63.trans (congrArg some (by kernel_rfl))
  f166 := Tryz.func65.trans (congrArg some (by kernel_rfl))
  f169 := Tryz.func67.trans (congrArg some (by kernel_rfl))
  f195 := Tryz.func91.trans (congrArg some (by kernel_rfl))
  f197 := Tryz.func66.trans (congrArg some (by kernel_rfl))
  f217 := Tryz.func87.trans (congrArg some (by kernel_rfl))
  f218 := Tryz.func92.trans (congrArg some (by kernel_rfl))
  f219 := Tryz.func61.trans (congrArg some (by kernel_rfl))
  f224 := Tryz.func89.trans (congrArg some (by kernel_rfl))
  f225 := Tryz.func88.trans (congrArg some (by kernel_rfl))
  f240 := Tryz.func93.trans (congrArg some (by kernel_rfl))
  f241 := Tryz.func94.trans (congrArg some (by kernel_rfl))
  f260 := Tryz.func95.trans (congrArg some (by kernel_rfl))
  f266 := Tryz.func102.trans (congrArg some (by kernel_rfl))
  f267 := Tryz.func90.trans (congrArg some (by kernel_rfl))
  f276 := Tryz.func104.trans (congrArg some (by kernel_rfl))
  f277 := Tryz.func105.trans (congrArg some (by kernel_rfl))
  f314 := Tryz.func103.trans (congrArg some (by kernel_rfl))
  t0 := Tryz.underlying0
  a0 := Tryz.isAgg0
  z0 := Tryz.sizeOf0
  v0 := Tryz.zeroValue0
  t3 := Tryz.underlying3
  a3 := Tryz.isAgg3
  z3 := Tryz.sizeOf3
  v3 := Tryz.zeroValue3
  t4 := Tryz.underlying4
  a4 := Tryz.isAgg4
  z4 := Tryz.sizeOf4
  v4 := Tryz.zeroValue4
  t5 := Tryz.underlying5
  a5 := Tryz.isAgg5
  z5 := Tryz.sizeOf5
  v5 := Tryz.zeroValue5
  t9 := Tryz.underlying9
  a9 := Tryz.isAgg9
  z9 := Tryz.sizeOf9
  v9 := Tryz.zeroValue9
  t20 := Tryz.underlying20
  a20 := Tryz.isAgg20
  z20 := Tryz.sizeOf20
  v20 := Tryz.zeroValue20
  t21 := Tryz.underlying21
  a21 := Tryz.isAgg21
  z21 := Tryz.sizeOf21
  v21 := Tryz.zeroValue21
  t37 := Tryz.underlying64
  a37 := Tryz.isAgg64
  z37 := Tryz.sizeOf64
  v37 := Tryz.zeroValue64
  t46 := Tryz.underlying122
  a46 := Tryz.isAgg122
  z46 := Tryz.sizeOf122
  v46 := Tryz.zeroValue122
  t51 := Tryz.underlying144
  a51 := Tryz.isAgg144
  z51 := Tryz.sizeOf144
  v51 := Tryz.zeroValue144
  t70 := Tryz.underlying111
  a70 := Tryz.isAgg111
  z70 := Tryz.sizeOf111
  v70 := Tryz.zeroValue111
  t72 := Tryz.underlying113
  a72 := Tryz.isAgg113
  z72 := Tryz.sizeOf113
  v72 := Tryz.zeroValue113
  t75 := Tryz.underlying116
  a75 := Tryz.isAgg116
  z75 := Tryz.sizeOf116
  v75 := Tryz.zeroValue116
  t76 := Tryz.underlying117
  a76 := Tryz.isAgg117
  z76 := Tryz.sizeOf117
  v76 := Tryz.zeroValue117
  t105 := Tryz.underlying119
  a105 := Tryz.isAgg119
  z105 := Tryz.sizeOf119
  v105 := Tryz.zeroValue119
  t119 := Tryz.underlying150
  a119 := Tryz.isAgg150
  z119 := Tryz.sizeOf150
  t127 := Tryz.underlying141
  a127 := Tryz.isAgg141
  z127 := Tryz.sizeOf141
  v127 := Tryz.zeroValue141
  t138 := Tryz.underlying152
  a138 := Tryz.isAgg152
  z138 := Tryz.sizeOf152
  v138 := Tryz.zeroValue152
  t139 := Tryz.underlying153
  a139 := Tryz.isAgg153
  z139 := Tryz.sizeOf153
  v139 := Tryz.zeroValue153
  t146 := Tryz.underlying145
  a146 := Tryz.isAgg145
  z146 := Tryz.sizeOf145
  v146 := Tryz.zeroValue145
  t164 := Tryz.underlying147
  a164 := Tryz.isAgg147
  z164 := Tryz.sizeOf147
  v164 := Tryz.zeroValue147
  g1 := by kernel_rfl
  g3 := by kernel_rfl
  g4 := by kernel_rfl }
theorem Tryz.Builder_Extra_155 : Builder.Extra Tryz.prog Tryz.lays155_ren := {
  sizeBuilder := by kernel_rfl
  liesBuilder := by kernel_rfl
  t5 := Tryz.underlying5
  a5 := Tryz.isAgg5
  z5 := Tryz.sizeOf5
  v5 := Tryz.zeroValue5
  infoByte := by kernel_rfl
  cellsByte := by kernel_rfl
  sizeByte := by kernel_rfl
  neB5 := by decide }
open Go.RowKit Go.Lib in
/-- strings.ReplaceAll: "ReplaceAll returns a copy of the string s with all non-overlapping instances of old replaced by new.": AT AN old THAT IS NOT EMPTY: 'Lib.replaceAll s old new'. (LAID: no walk: one application.) -/
theorem Tryz.strings_ReplaceAll (s old new : ByteArray) (m : Int) (w : World) (hs : s.size < 4294967281) (hm : w.cell? ⟨0, 0, none⟩ = some (.int .i64 m)) (h1 : 1 ≤ old.size) (hlen : s.size + Lib.countB s old * new.size ≤ 140737488355328) :
    Calls Tryz.prog 24 #[.string s, .string old, .string new] w fun e w' =>
      e = .returned (.string ⟨(Lib.replaceAll s.data.toList old.data.toList new.data.toList).toArray⟩) ∧ Below w.heap.size w w' := Any.strings_ReplaceAll Tryz.lays155 Tryz.Builder_Extra_155 s old new m w hs hm h1 hlen
end Go.Proofs
