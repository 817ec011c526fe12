/-
  kinds: together 66.
-/
import Derived.Test.YtkdgageljgfgoaaDoorTogT
namespace Go.Proofs.YtkdgageljgfgoaaDoor
open Go.RowKit Go.Shelf Go.Sort
set_option linter.unusedSimpArgs false
attribute [local go_sem] Oper.semAt_some

/-- One more element on a row of our own. -/
theorem pushT {B : Nat} {w w2 : World} {ao : Option Addr} {c : Nat} {p : List El} (x : El) (H : Hid (Below B w w2 ∧ Oe w2 B (.slice ao p.length c) p)) (hB : B ≤ w.heap.size) (hp : p.length ≤ 200000) {ops : Array Oper} {rest : List Oper} {o : Oper} {a : Act} {Q : Exit → Act → World → Prop} (hg : o.guard = none) (s t : Operand) (ho : o.op = .call { callee := .builtin .append, args := #[s, t], argTypes := #[28, 28] })
      (hs : a.eval s = .slice ao p.length c) (ht : a.eval t = .slice (some ⟨w2.heap.size, 0, none⟩) 1 1)
      (hk : ∀ ao' cap' w', Hid ((ao' = none → cap' = 0) ∧ Below B w w' ∧ Oe w' B (.slice ao' (p.length + 1) cap') (p ++ [x])) → wpList Tryd.prog ops Q rest (a.put o.dst (.slice ao' (p.length + 1) cap')) w') :
      wpList Tryd.prog ops Q (o :: rest) a (w2.alloc (.cells (encE x).toArray 58)) := by
  have hb2 := H.out.1
  have hO := H.out.2
  have hbA : Below B w (w2.alloc (.cells (encE x).toArray 58)) := hb2.alloc (by have := hb2.size; omega) _
  refine wpList_pushE hg s t ho B _ p hs (hO.alloc _) w2.heap.size 1 x ht (heap_alloc_new w2 _) (by omega) (by simp; have := hb2.size; omega) ?_
  intro ao' cap' w' h1 h2 h3
  have hb := below_oe hbA (by simp; have := hb2.size; omega) (hO.alloc _) h2
  exact hk ao' cap' w' (hide ⟨h3, hb, h1⟩)

/-- What a loop of together has made. -/
def TI (w wr : World) (ao : Option Addr) (c : Nat) (p q : List El) : Prop := p = q ∧ (ao = none → c = 0) ∧ Below w.heap.size w wr ∧ Oe wr w.heap.size (.slice ao p.length c) p

set_option maxHeartbeats 8000000 in
set_option maxRecDepth 100000 in
theorem together_any {w : World} {oo oa ob : Option Addr} {co ca cb : Nat} {base a b : List El} (ho : Rv w oo co base) (ha : Rv w oa ca a) (hb : Rv w ob cb b) (hlo : base.length ≤ 90000) (hla : a.length ≤ 40000) (hlb : b.length ≤ 40000) (uo : UpE base) (ua : UpE a) (ub : UpE b) :
    Calls Tryd.prog 27 #[.slice oo base.length co, .slice oa a.length ca, .slice ob b.length cb] w (ChgE w (togL base a b)) := by
  obtain ⟨NO, hNO⟩ : ∃ N, N = base.length := ⟨_, rfl⟩
  obtain ⟨NA, hNA⟩ : ∃ N, N = a.length := ⟨_, rfl⟩
  obtain ⟨NB, hNB⟩ : ∃ N, N = b.length := ⟨_, rfl⟩
  have so := fun (x : El) (W : World) (hW : Below w.heap.size w W) => stands_any (c := co) x (ho.re.below hW) (by omega) uo.rise
  have sa := fun (x : El) (W : World) (hW : Below w.heap.size w W) => stands_any (c := ca) x (ha.re.below hW) (by omega) ua.rise
  have sb := fun (x : El) (W : World) (hW : Below w.heap.size w W) => stands_any (c := cb) x (hb.re.below hW) (by omega) ub.rise
  have HT := hide (fun L' => @tog_sorted base a b L' ua ub)
  have HA := hide (And.intro hNA (And.intro hla ha.re))
  have HB := hide (And.intro hNB (And.intro hlb hb.re))
  rw [← hNO] at so
  rw [← hNA] at sa
  rw [← hNB] at sb
  rw [← hNO, ← hNA, ← hNB]
  rw [← hNA] at hla
  rw [← hNB] at hlb
  clear ho ha hb hlo uo ua ub hNO hNA hNB
  go_enter Tryd.func27, Tryd.ntmps27
  go_wp2
  go_loopw [7, 14] (fun s iv wr => ∃ (k : Nat) (p : List El) (ao : Option Addr) (c : Nat), k ≤ NA ∧ p.length ≤ k ∧ iv = .int .i64 k ∧ s = .slice ao p.length c ∧ Hid (TI w wr ao c p (keepA base b (a.take k)))) (fun _ iv _ => NA - (intOf iv).toNat)
  case atStart => exact ⟨0, [], none, 0, Nat.zero_le _, Nat.le_refl _, rfl, rfl, hide ⟨rfl, fun _ => rfl, Below.refl _ _, Oe.nil _ _⟩⟩
  case round =>
    obtain ⟨k, p, ao, c, hk, hpk, rfl, rfl, hP⟩ := hrel
    by_cases hlt : k < NA
    · have d1 : decide (k < NA) = true := by simpa using hlt
      have d1' : (k : Int) < (NA : Int) := by omega
      obtain ⟨x, hx⟩ : ∃ x, a[k]? = some x := ⟨_, List.getElem?_eq_getElem (by rw [← HA.out.1]; exact hlt)⟩
      have hre := HA.out.2.2.below hP.out.2.2.1
      obtain ⟨bk, off, hao, q0, q1, q2, q3, q4, q5⟩ := hre.cells hx
      have kS := sb x
      have kO := so x
      have hkeep : keepA base b (a.take (k + 1)) = keepA base b (a.take k) ++ (if (standsB x.1 b || !standsB x.1 base) then [x] else []) := filt_take _ a hx
      obtain ⟨V1, hV1⟩ : ∃ V, V = standsB x.1 b := ⟨_, rfl⟩
      obtain ⟨V2, hV2⟩ : ∃ V, V = standsB x.1 base := ⟨_, rfl⟩
      simp only [← hV1] at kS
      simp only [← hV2] at kO
      rw [← hV1, ← hV2] at hkeep
      subst hao
      obtain ⟨⟨g, r, l0, n0, i0⟩, t0⟩ := x
      dsimp only at q0 q1 q2 q3 q4 q5
      obtain ⟨p0, p1, p2, p3, p4, p5⟩ := new6 wr (.int .i64 g) (.int .i64 r) (.string l0) (.int .i64 n0) (.int .i64 i0) (.string t0) 58
      have b1 : Below w.heap.size w (wr.alloc (.cells #[.int .i64 g, .int .i64 r, .string l0, .int .i64 n0, .int .i64 i0, .string t0] 58)) := hP.out.2.2.1.alloc hP.out.2.2.1.size _
      have k1 := kS _ b1
      have o1 : Oe (wr.alloc (.cells #[.int .i64 g, .int .i64 r, .string l0, .int .i64 n0, .int .i64 i0, .string t0] 58)) w.heap.size (.slice ao p.length c) p := hP.out.2.2.2.alloc _
      have HX := hide hkeep
      have HZ := hide (And.intro p0 (And.intro p1 (And.intro p2 (And.intro p3 (And.intro p4 p5)))))
      have H1 := hide (And.intro b1 o1)
      obtain ⟨XB, hXB⟩ : ∃ B, B = wr.heap.size := ⟨_, rfl⟩
      clear hkeep hre b1 o1 p0 p1 p2 p3 p4 p5 kS hx hV1 hV2
      cases V1
      · cases V2
        · go_wp2_with (first
            | (go_at_call 48; refine k1.mono ?_; rintro e w2 ⟨rfl, b2⟩; obtain ⟨c0, c1, c2, c3, c4, c5⟩ := HZ.out; replace c0 := cell_stays c0 b2; replace c1 := cell_stays c1 b2; replace c2 := cell_stays c2 b2; replace c3 := cell_stays c3 b2; replace c4 := cell_stays c4 b2; replace c5 := cell_stays c5 b2; have H2 := hide (And.intro (H1.out.1.trans (b2.mono H1.out.1.size)) (H1.out.2.below b2)); clear k1 b2)
            | (go_at_call 48; refine (kO _ H2.out.1).mono ?_; rintro e w3 ⟨rfl, b3⟩; replace c0 := cell_stays c0 b3; replace c1 := cell_stays c1 b3; replace c2 := cell_stays c2 b3; replace c3 := cell_stays c3 b3; replace c4 := cell_stays c4 b3; replace c5 := cell_stays c5 b3; have H3 := hide (And.intro (H2.out.1.trans (b3.mono H2.out.1.size)) (H2.out.2.below b3)); clear kO b3)
            | (refine pushT ((g, r, l0, n0, i0), t0) H3 (Nat.le_refl _) (by omega) rfl _ _ rfl rfl rfl ?_; intro a4 c4' w4 H4))
          go_roundw
          case rel => exact ⟨k + 1, p ++ [((g, r, l0, n0, i0), t0)], a4, c4', by omega, by rw [List.length_append]; simp; omega, by go_num, by rw [List.length_append]; rfl, hide ⟨by rw [HX.out, hP.out.1]; rfl, H4.out.1, H4.out.2.1, by rw [List.length_append]; exact H4.out.2.2⟩⟩
          case measure => simp [intOf]; omega

        · go_wp2_with (first
            | (go_at_call 48; refine k1.mono ?_; rintro e w2 ⟨rfl, b2⟩; obtain ⟨c0, c1, c2, c3, c4, c5⟩ := HZ.out; replace c0 := cell_stays c0 b2; replace c1 := cell_stays c1 b2; replace c2 := cell_stays c2 b2; replace c3 := cell_stays c3 b2; replace c4 := cell_stays c4 b2; replace c5 := cell_stays c5 b2; have H2 := hide (And.intro (H1.out.1.trans (b2.mono H1.out.1.size)) (H1.out.2.below b2)); clear k1 b2)
            | (go_at_call 48; refine (kO _ H2.out.1).mono ?_; rintro e w3 ⟨rfl, b3⟩; replace c0 := cell_stays c0 b3; replace c1 := cell_stays c1 b3; replace c2 := cell_stays c2 b3; replace c3 := cell_stays c3 b3; replace c4 := cell_stays c4 b3; replace c5 := cell_stays c5 b3; have H3 := hide (And.intro (H2.out.1.trans (b3.mono H2.out.1.size)) (H2.out.2.below b3)); clear kO b3))
          go_roundw
          case rel => exact ⟨k + 1, p, ao, c, by omega, by omega, by go_num, rfl, hide ⟨by rw [HX.out, hP.out.1]; simp, hP.out.2.1, H3.out.1, H3.out.2⟩⟩
          case measure => simp [intOf]; omega

      · go_wp2_with (first
          | (go_at_call 48; refine k1.mono ?_; rintro e w2 ⟨rfl, b2⟩; obtain ⟨c0, c1, c2, c3, c4, c5⟩ := HZ.out; replace c0 := cell_stays c0 b2; replace c1 := cell_stays c1 b2; replace c2 := cell_stays c2 b2; replace c3 := cell_stays c3 b2; replace c4 := cell_stays c4 b2; replace c5 := cell_stays c5 b2; have H2 := hide (And.intro (H1.out.1.trans (b2.mono H1.out.1.size)) (H1.out.2.below b2)); clear k1 b2)
          | (refine pushT ((g, r, l0, n0, i0), t0) H2 (Nat.le_refl _) (by omega) rfl _ _ rfl rfl rfl ?_; intro a4 c4' w4 H4))
        go_roundw
        case rel => exact ⟨k + 1, p ++ [((g, r, l0, n0, i0), t0)], a4, c4', by omega, by rw [List.length_append]; simp; omega, by go_num, by rw [List.length_append]; rfl, hide ⟨by rw [HX.out, hP.out.1]; rfl, H4.out.1, H4.out.2.1, by rw [List.length_append]; exact H4.out.2.2⟩⟩
        case measure => simp [intOf]; omega

    · obtain rfl : k = NA := by omega
      have d1 : decide (k < k) = false := by simp
      have hP1 : Hid (TI w wr ao c p (keepA base b a)) := hide (by have := hP.out; rwa [HA.out.1, List.take_length] at this)
      clear hP
      have o0 := hP1.out.2.2
      go_wp2
      go_loopw [7, 34] (fun s iv wr => ∃ (k : Nat) (p : List El) (ao : Option Addr) (c : Nat), k ≤ NB ∧ p.length ≤ 100000 + k ∧ iv = .int .i64 k ∧ s = .slice ao p.length c ∧ Hid (TI w wr ao c p (keepA base b a ++ newB base a (b.take k)))) (fun _ iv _ => NB - (intOf iv).toNat)
      case atStart => exact ⟨0, p, ao, c, Nat.zero_le _, by omega, rfl, rfl, hide ⟨by rw [hP1.out.1]; simp [newB], hP1.out.2.1, hP1.out.2.2.1, hP1.out.2.2.2⟩⟩
      case round =>
        clear hP1 o0 hpk hk
        obtain ⟨k, p, ao, c, hk, hpk, rfl, rfl, hP⟩ := hrel
        by_cases hlt : k < NB
        · have d1 : decide (k < NB) = true := by simpa using hlt
          have d1' : (k : Int) < (NB : Int) := by omega
          obtain ⟨x, hx⟩ : ∃ x, b[k]? = some x := ⟨_, List.getElem?_eq_getElem (by rw [← HB.out.1]; exact hlt)⟩
          have hre := HB.out.2.2.below hP.out.2.2.1
          obtain ⟨bk, off, hao, q0, q1, q2, q3, q4, q5⟩ := hre.cells hx
          have kS := sa x
          have kO := so x
          have hkeep : newB base a (b.take (k + 1)) = newB base a (b.take k) ++ (if (!standsB x.1 a && !standsB x.1 base) then [x] else []) := filt_take _ b hx
          obtain ⟨V1, hV1⟩ : ∃ V, V = standsB x.1 a := ⟨_, rfl⟩
          obtain ⟨V2, hV2⟩ : ∃ V, V = standsB x.1 base := ⟨_, rfl⟩
          simp only [← hV1] at kS
          simp only [← hV2] at kO
          rw [← hV1, ← hV2] at hkeep
          subst hao
          obtain ⟨⟨g, r, l0, n0, i0⟩, t0⟩ := x
          dsimp only at q0 q1 q2 q3 q4 q5
          obtain ⟨p0, p1, p2, p3, p4, p5⟩ := new6 wr (.int .i64 g) (.int .i64 r) (.string l0) (.int .i64 n0) (.int .i64 i0) (.string t0) 58
          have b1 : Below w.heap.size w (wr.alloc (.cells #[.int .i64 g, .int .i64 r, .string l0, .int .i64 n0, .int .i64 i0, .string t0] 58)) := hP.out.2.2.1.alloc hP.out.2.2.1.size _
          have k1 := kS _ b1
          have o1 : Oe (wr.alloc (.cells #[.int .i64 g, .int .i64 r, .string l0, .int .i64 n0, .int .i64 i0, .string t0] 58)) w.heap.size (.slice ao p.length c) p := hP.out.2.2.2.alloc _
          have HX := hide hkeep
          have HZ := hide (And.intro p0 (And.intro p1 (And.intro p2 (And.intro p3 (And.intro p4 p5)))))
          have H1 := hide (And.intro b1 o1)
          obtain ⟨XB, hXB⟩ : ∃ B, B = wr.heap.size := ⟨_, rfl⟩
          clear hkeep hre b1 o1 p0 p1 p2 p3 p4 p5 kS hx hV1 hV2
          cases V1
          · cases V2
            · go_wp2_with (first
                | (go_at_call 48; refine k1.mono ?_; rintro e w2 ⟨rfl, b2⟩; obtain ⟨c0, c1, c2, c3, c4, c5⟩ := HZ.out; replace c0 := cell_stays c0 b2; replace c1 := cell_stays c1 b2; replace c2 := cell_stays c2 b2; replace c3 := cell_stays c3 b2; replace c4 := cell_stays c4 b2; replace c5 := cell_stays c5 b2; have H2 := hide (And.intro (H1.out.1.trans (b2.mono H1.out.1.size)) (H1.out.2.below b2)); clear k1 b2)
                | (go_at_call 48; refine (kO _ H2.out.1).mono ?_; rintro e w3 ⟨rfl, b3⟩; replace c0 := cell_stays c0 b3; replace c1 := cell_stays c1 b3; replace c2 := cell_stays c2 b3; replace c3 := cell_stays c3 b3; replace c4 := cell_stays c4 b3; replace c5 := cell_stays c5 b3; have H3 := hide (And.intro (H2.out.1.trans (b3.mono H2.out.1.size)) (H2.out.2.below b3)); clear kO b3)
                | (refine pushT ((g, r, l0, n0, i0), t0) H3 (Nat.le_refl _) (by omega) rfl _ _ rfl rfl rfl ?_; intro a4 c4' w4 H4))
              go_roundw
              case rel => exact ⟨k + 1, p ++ [((g, r, l0, n0, i0), t0)], a4, c4', by omega, by rw [List.length_append]; simp; omega, by go_num, by rw [List.length_append]; rfl, hide ⟨by rw [HX.out, hP.out.1, List.append_assoc]; rfl, H4.out.1, H4.out.2.1, by rw [List.length_append]; exact H4.out.2.2⟩⟩
              case measure => simp [intOf]; omega

            · go_wp2_with (first
                | (go_at_call 48; refine k1.mono ?_; rintro e w2 ⟨rfl, b2⟩; obtain ⟨c0, c1, c2, c3, c4, c5⟩ := HZ.out; replace c0 := cell_stays c0 b2; replace c1 := cell_stays c1 b2; replace c2 := cell_stays c2 b2; replace c3 := cell_stays c3 b2; replace c4 := cell_stays c4 b2; replace c5 := cell_stays c5 b2; have H2 := hide (And.intro (H1.out.1.trans (b2.mono H1.out.1.size)) (H1.out.2.below b2)); clear k1 b2)
                | (go_at_call 48; refine (kO _ H2.out.1).mono ?_; rintro e w3 ⟨rfl, b3⟩; replace c0 := cell_stays c0 b3; replace c1 := cell_stays c1 b3; replace c2 := cell_stays c2 b3; replace c3 := cell_stays c3 b3; replace c4 := cell_stays c4 b3; replace c5 := cell_stays c5 b3; have H3 := hide (And.intro (H2.out.1.trans (b3.mono H2.out.1.size)) (H2.out.2.below b3)); clear kO b3))
              go_roundw
              case rel => exact ⟨k + 1, p, ao, c, by omega, by omega, by go_num, rfl, hide ⟨by rw [HX.out, hP.out.1]; simp, hP.out.2.1, H3.out.1, H3.out.2⟩⟩
              case measure => simp [intOf]; omega

          · go_wp2_with (first
              | (go_at_call 48; refine k1.mono ?_; rintro e w2 ⟨rfl, b2⟩; obtain ⟨c0, c1, c2, c3, c4, c5⟩ := HZ.out; replace c0 := cell_stays c0 b2; replace c1 := cell_stays c1 b2; replace c2 := cell_stays c2 b2; replace c3 := cell_stays c3 b2; replace c4 := cell_stays c4 b2; replace c5 := cell_stays c5 b2; have H2 := hide (And.intro (H1.out.1.trans (b2.mono H1.out.1.size)) (H1.out.2.below b2)); clear k1 b2))
            go_roundw
            case rel => exact ⟨k + 1, p, ao, c, by omega, by omega, by go_num, rfl, hide ⟨by rw [HX.out, hP.out.1]; simp, hP.out.2.1, H2.out.1, H2.out.2⟩⟩
            case measure => simp [intOf]; omega

        · obtain rfl : k = NB := by omega
          have d1 : decide (k < k) = false := by simp
          have hP1 : Hid (TI w wr ao c p (keepA base b a ++ newB base a b)) := hide (by have := hP.out; rwa [HB.out.1, List.take_length] at this)
          clear hP
          have fin := fun (L' : List El) (W' : World) (hS : SortsE (keepA base b a ++ newB base a b) L') => HT.out L' hS
          have hlen : p.length ≤ 80000 := by rw [hP1.out.1, List.length_append]; have := keepA_len base b a; have := newB_len base a b; have := HA.out.1; have := HA.out.2.1; have := HB.out.1; have := HB.out.2.1; omega
          have hso : Calls Tryd.prog 49 #[.slice ao p.length c, .func (.func 50) #[] #[]] wr fun e w' => e = .returned (.tuple #[]) ∧ Hid (ChgE w (togL base a b) (.returned (.slice ao p.length c)) w') := by
            have hO := hP1.out.2.2.2
            rcases hO.shape with ⟨e, hn⟩ | ⟨g, cap, e, _⟩
            · injection e with e1 e2 e3
              subst e1 e3
              rw [e2]
              refine (sortE_nil wr).mono ?_
              rintro e w' ⟨rfl, rfl⟩
              have hS : SortsE (keepA base b a ++ newB base a b) [] := by rw [← hP1.out.1, hn]; exact ⟨rfl, List.Perm.refl _, List.Pairwise.nil⟩
              exact ⟨rfl, hide ⟨none, 0, by rw [HT.out _ hS]; rfl, by rw [HT.out _ hS]; exact ⟨Rv.none _, by simp⟩, hP1.out.2.2.1⟩⟩
            · injection e with e1 e2 e3
              subst e1 e3
              refine (sortE_any hO (by omega)).mono ?_
              rintro e w' ⟨rfl, L', hS, hO', hb'⟩
              have hS' : SortsE (keepA base b a ++ newB base a b) L' := by rw [← hP1.out.1]; exact hS
              refine ⟨rfl, hide ⟨_, c, by rw [HT.out _ hS', hS.1], by rw [HT.out _ hS']; exact Nv.own hO' (Nat.le_refl _), hP1.out.2.2.1.trans hb'⟩⟩
          clear fin so sa sb
          go_wp2_with (go_at_call 49; refine hso.mono ?_; rintro e w5 ⟨rfl, H5⟩)
          go_ret
          exact H5.out


end Go.Proofs.YtkdgageljgfgoaaDoor
