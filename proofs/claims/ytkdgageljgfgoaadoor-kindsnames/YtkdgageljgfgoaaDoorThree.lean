/-
  kinds: Three 33.
-/
import Derived.Test.YtkdgageljgfgoaaDoorTog10
namespace Go.Proofs.YtkdgageljgfgoaaDoor
open Go.RowKit Go.Shelf
set_option linter.unusedSimpArgs false
attribute [local go_sem] Oper.semAt_some

/-- Three values run together: kind, number, elements, the error. -/
def threeV (ko no : Int) (base : List El) (ka na : Int) (a : List El) (kb nb : Int) (b : List El) : Int × Int × List El × Int :=
  if valB ko no base = false ∨ valB ka na a = false ∨ valB kb nb b = false ∨ ka ≠ ko ∨ kb ≠ ko then (0, 0, [], 2)
  else (ko, wrap64 (wrap64 (na + nb) - no), togL base a b, 0)

set_option maxHeartbeats 8000000 in
set_option maxRecDepth 100000 in
theorem three_any {w : World} (ko no ka na kb nb : Int) {oo oa ob : Option Addr} {co ca cb : Nat} {base a b : List El} (ho : Rv w oo co base) (ha : Rv w oa ca a) (hb : Rv w ob cb b) (hlo : base.length ≤ 90000) (hla : a.length ≤ 40000) (hlb : b.length ≤ 40000) :
    Calls Tryd.prog 14 #[vv ko no oo base.length co, vv ka na oa a.length ca, vv kb nb ob b.length cb] w (ValE w (threeV ko no base ka na a kb nb b)) := by
  obtain ⟨NO, hNO⟩ : ∃ N, N = base.length := ⟨_, rfl⟩
  obtain ⟨NA, hNA⟩ : ∃ N, N = a.length := ⟨_, rfl⟩
  obtain ⟨NB, hNB⟩ : ∃ N, N = b.length := ⟨_, rfl⟩
  obtain ⟨w1, hw1⟩ : ∃ w1, w1 = (((w.alloc (.cells #[.int .i64 ko, .int .i64 no, .slice oo NO co] 30)).alloc (.cells #[.int .i64 ka, .int .i64 na, .slice oa NA ca] 30)).alloc (.cells #[.int .i64 kb, .int .i64 nb, .slice ob NB cb] 30)).alloc (.cells #[.int .i64 0, .int .i64 0, .slice none 0 0] 30) := ⟨_, rfl⟩
  obtain ⟨m0, m1, m2, m3, b1⟩ := new4 w (.cells #[.int .i64 ko, .int .i64 no, .slice oo NO co] 30) (.cells #[.int .i64 ka, .int .i64 na, .slice oa NA ca] 30) (.cells #[.int .i64 kb, .int .i64 nb, .slice ob NB cb] 30) (.cells #[.int .i64 0, .int .i64 0, .slice none 0 0] 30)
  rw [← hw1] at m0 m1 m2 m3 b1
  have hs1 : w1.heap.size = w.heap.size + 4 := by rw [hw1]; simp
  have ho1 := ho.below b1
  have ha1 := ha.below b1
  have hb1 := hb.below b1
  have kvo := fun (W : World) (hW : Below w1.heap.size w1 W) => value_any ko no (ho1.below hW) (by omega)
  have kva := fun (W : World) (hW : Below w1.heap.size w1 W) => value_any ka na (ha1.below hW) (by omega)
  have kvb := fun (W : World) (hW : Below w1.heap.size w1 W) => value_any kb nb (hb1.below hW) (by omega)
  have k66 := fun (W : World) (hW : Below w1.heap.size w1 W) (h1 : valB ko no base = true) (h2 : valB ka na a = true) (h3 : valB kb nb b = true) => together_any (ho1.below hW) (ha1.below hW) (hb1.below hW) hlo hla hlb (valB_up h1) (valB_up h2) (valB_up h3)
  have hap : threeV ko no base ka na a kb nb b = if valB ko no base = false ∨ valB ka na a = false ∨ valB kb nb b = false ∨ ka ≠ ko ∨ kb ≠ ko then (0, 0, [], 2) else (ko, wrap64 (wrap64 (na + nb) - no), togL base a b, 0) := rfl
  rw [hap]
  unfold ChgE at k66
  rw [← hNO] at kvo k66
  rw [← hNA] at kva k66
  rw [← hNB] at kvb k66
  rw [← hNO, ← hNA, ← hNB]
  generalize valB ko no base = V1 at *
  generalize valB ka na a = V2 at *
  generalize valB kb nb b = V3 at *
  generalize togL base a b = CL at *
  obtain ⟨M, hM⟩ : ∃ M, M = CL.length := ⟨_, rfl⟩
  simp only [← hM] at k66
  obtain ⟨Bo, hBo⟩ : ∃ B, B = w.heap.size := ⟨_, rfl⟩
  obtain ⟨Ba, hBa⟩ : ∃ B, B = w.heap.size + 1 := ⟨_, rfl⟩
  obtain ⟨Bb, hBb⟩ : ∃ B, B = w.heap.size + 1 + 1 := ⟨_, rfl⟩
  obtain ⟨Br, hBr⟩ : ∃ B, B = w.heap.size + 1 + 1 + 1 := ⟨_, rfl⟩
  rw [← hBo] at m0
  rw [← hBa] at m1
  rw [show w.heap.size + 2 = Bb by omega] at m2
  rw [show w.heap.size + 3 = Br by omega] at m3
  have up : ∀ W, Below w1.heap.size w1 W → (W.cell? ⟨Bo, 0, none⟩ = some (.int .i64 ko) ∧ W.cell? ⟨Bo, 1, none⟩ = some (.int .i64 no) ∧ W.cell? ⟨Bo, 2, none⟩ = some (.slice oo NO co) ∧ W.cell? ⟨Ba, 0, none⟩ = some (.int .i64 ka) ∧ W.cell? ⟨Ba, 1, none⟩ = some (.int .i64 na) ∧ W.cell? ⟨Ba, 2, none⟩ = some (.slice oa NA ca) ∧ W.cell? ⟨Bb, 0, none⟩ = some (.int .i64 kb) ∧ W.cell? ⟨Bb, 1, none⟩ = some (.int .i64 nb) ∧ W.cell? ⟨Bb, 2, none⟩ = some (.slice ob NB cb)) ∧ W.heap[Br]? = some (.cells #[.int .i64 0, .int .i64 0, .slice none 0 0] 30 (0, 0)) := fun W hW => by
    have q0 := (hW.block _ (Array.getElem?_eq_some_iff.1 m0).1).trans m0
    have q1 := (hW.block _ (Array.getElem?_eq_some_iff.1 m1).1).trans m1
    have q2 := (hW.block _ (Array.getElem?_eq_some_iff.1 m2).1).trans m2
    exact ⟨⟨(cell_of_row _ _ 0 _ 30 (0, 0) q0).trans rfl, (cell_of_row _ _ 1 _ 30 (0, 0) q0).trans rfl, (cell_of_row _ _ 2 _ 30 (0, 0) q0).trans rfl, (cell_of_row _ _ 0 _ 30 (0, 0) q1).trans rfl, (cell_of_row _ _ 1 _ 30 (0, 0) q1).trans rfl, (cell_of_row _ _ 2 _ 30 (0, 0) q1).trans rfl, (cell_of_row _ _ 0 _ 30 (0, 0) q2).trans rfl, (cell_of_row _ _ 1 _ 30 (0, 0) q2).trans rfl, (cell_of_row _ _ 2 _ 30 (0, 0) q2).trans rfl⟩, (hW.block _ (Array.getElem?_eq_some_iff.1 m3).1).trans m3⟩
  have HW := hide (And.intro hw1 (And.intro b1 (And.intro hM (And.intro hs1 (And.intro hBo (And.intro hBa (And.intro hBb hBr)))))))
  obtain ⟨⟨x0, x1, x2, x3, x4, x5, x6, x7, x8⟩, xr⟩ := up w1 (Below.refl _ _)
  replace up := hide up
  clear ho ha hb hlo hla hlb ho1 ha1 hb1 hap m0 m1 m2 m3 b1 hs1 hw1 hNO hNA hNB hM hBo hBa hBb hBr
  have hret : ∀ (W W' : World), Below w1.heap.size w1 W → Only (fun j => j = Br) W W' → Below w.heap.size w W' := fun W W' hW hO => by
    have hb := HW.out.2.1.trans (hW.mono HW.out.2.1.size)
    exact Below.only hb hO hb.size (fun j e => by have := HW.out; omega)
  replace hret := hide hret
  have kvo1 := kvo w1 (Below.refl _ _)
  cases V1
  · rw [if_pos (.inl rfl)]
    go_enter Tryd.func14, Tryd.ntmps14
    go_upto_region 1 with fail
    have e1 := HW.out.1
    obtain ⟨-, -, -, -, eBo, eBa, eBb, eBr⟩ := HW.out
    rw [← e1, ← eBr, ← eBb, ← eBa, ← eBo]
    clear e1 eBo eBa eBb eBr
    go_wp2_with (first
      | (go_at_call 23; refine kvo1.mono ?_; rintro e w2 ⟨rfl, b2⟩; clear x0 x1 x2 x3 x4 x5 x6 x7 x8 xr; obtain ⟨⟨x0, x1, x2, x3, x4, x5, x6, x7, x8⟩, xr⟩ := up.out w2 b2; have H2 := hide b2; clear b2 kvo1)
      | (refine wpList_storeV rfl rfl _ _ rfl Br 0 0 none 0 0 rfl rfl xr ?_; intro w9 H9))
    refine ret_row_tmp Br [.int .i64 0, .int .i64 0, .slice none 0 0] rfl rfl rfl Tryd.underlying30 rfl Tryd.info30 H9.out.1 rfl ?_
    exact ValE.bad 2 (hret.out _ _ H2.out H9.out.2)
  cases V2
  · rw [if_pos (.inr (.inl rfl))]
    go_enter Tryd.func14, Tryd.ntmps14
    go_upto_region 1 with fail
    have e1 := HW.out.1
    obtain ⟨-, -, -, -, eBo, eBa, eBb, eBr⟩ := HW.out
    rw [← e1, ← eBr, ← eBb, ← eBa, ← eBo]
    clear e1 eBo eBa eBb eBr
    go_wp2_with (first
      | (go_at_call 23; refine kvo1.mono ?_; rintro e w2 ⟨rfl, b2⟩; clear x0 x1 x2 x3 x4 x5 x6 x7 x8 xr; obtain ⟨⟨x0, x1, x2, x3, x4, x5, x6, x7, x8⟩, xr⟩ := up.out w2 b2; have H2 := hide b2; clear b2 kvo1)
      | (go_at_call 23; refine (kva _ H2.out).mono ?_; rintro e w3 ⟨rfl, b3⟩; clear x0 x1 x2 x3 x4 x5 x6 x7 x8 xr; obtain ⟨⟨x0, x1, x2, x3, x4, x5, x6, x7, x8⟩, xr⟩ := up.out w3 (H2.out.trans (b3.mono H2.out.size)); have H3 := hide (H2.out.trans (b3.mono H2.out.size)); clear b3 kva)
      | (refine wpList_storeV rfl rfl _ _ rfl Br 0 0 none 0 0 rfl rfl xr ?_; intro w9 H9))
    refine ret_row_tmp Br [.int .i64 0, .int .i64 0, .slice none 0 0] rfl rfl rfl Tryd.underlying30 rfl Tryd.info30 H9.out.1 rfl ?_
    exact ValE.bad 2 (hret.out _ _ H3.out H9.out.2)
  cases V3
  · rw [if_pos (.inr (.inr (.inl rfl)))]
    go_enter Tryd.func14, Tryd.ntmps14
    go_upto_region 1 with fail
    have e1 := HW.out.1
    obtain ⟨-, -, -, -, eBo, eBa, eBb, eBr⟩ := HW.out
    rw [← e1, ← eBr, ← eBb, ← eBa, ← eBo]
    clear e1 eBo eBa eBb eBr
    go_wp2_with (first
      | (go_at_call 23; refine kvo1.mono ?_; rintro e w2 ⟨rfl, b2⟩; clear x0 x1 x2 x3 x4 x5 x6 x7 x8 xr; obtain ⟨⟨x0, x1, x2, x3, x4, x5, x6, x7, x8⟩, xr⟩ := up.out w2 b2; have H2 := hide b2; clear b2 kvo1)
      | (go_at_call 23; refine (kva _ H2.out).mono ?_; rintro e w3 ⟨rfl, b3⟩; clear x0 x1 x2 x3 x4 x5 x6 x7 x8 xr; obtain ⟨⟨x0, x1, x2, x3, x4, x5, x6, x7, x8⟩, xr⟩ := up.out w3 (H2.out.trans (b3.mono H2.out.size)); have H3 := hide (H2.out.trans (b3.mono H2.out.size)); clear b3 kva)
      | (go_at_call 23; refine (kvb _ H3.out).mono ?_; rintro e w4 ⟨rfl, b4⟩; clear x0 x1 x2 x3 x4 x5 x6 x7 x8 xr; obtain ⟨⟨x0, x1, x2, x3, x4, x5, x6, x7, x8⟩, xr⟩ := up.out w4 (H3.out.trans (b4.mono H3.out.size)); have H4 := hide (H3.out.trans (b4.mono H3.out.size)); clear b4 kvb)
      | (refine wpList_storeV rfl rfl _ _ rfl Br 0 0 none 0 0 rfl rfl xr ?_; intro w9 H9))
    refine ret_row_tmp Br [.int .i64 0, .int .i64 0, .slice none 0 0] rfl rfl rfl Tryd.underlying30 rfl Tryd.info30 H9.out.1 rfl ?_
    exact ValE.bad 2 (hret.out _ _ H4.out H9.out.2)
  by_cases h1 : ka = ko
  · by_cases h2 : kb = ko
    · rw [if_neg (by simp [h1, h2])]
      subst h1 h2
      replace k66 := fun W hW => k66 W hW rfl rfl rfl
      obtain ⟨NN, hNN⟩ : ∃ z, z = wrap64 (wrap64 (na + nb) - no) := ⟨_, rfl⟩
      have wz1 : IntKind.i64.wrap (na + nb) = wrap64 (na + nb) := by rw [IntKind.wrap_i64, wrap64]
      have wz2 : IntKind.i64.wrap (wrap64 (na + nb) - no) = NN := by rw [hNN]; generalize wrap64 (na + nb) - no = z; rw [IntKind.wrap_i64, wrap64]
      have wz' : wrap64 (wrap64 (na + nb) - no) = NN := hNN.symm
      have HNN := hide hNN
      clear hNN
      go_enter Tryd.func14, Tryd.ntmps14
      go_upto_region 1 with fail
      have e1 := HW.out.1
      obtain ⟨-, -, -, -, eBo, eBa, eBb, eBr⟩ := HW.out
      rw [← e1, ← eBr, ← eBb, ← eBa, ← eBo]
      clear e1 eBo eBa eBb eBr
      go_upto_region 4 with (first
        | (go_at_call 23; refine kvo1.mono ?_; rintro e w2 ⟨rfl, b2⟩; clear x0 x1 x2 x3 x4 x5 x6 x7 x8 xr; obtain ⟨⟨x0, x1, x2, x3, x4, x5, x6, x7, x8⟩, xr⟩ := up.out w2 b2; have H2 := hide b2; clear b2 kvo1)
        | (go_at_call 23; refine (kva _ H2.out).mono ?_; rintro e w3 ⟨rfl, b3⟩; clear x0 x1 x2 x3 x4 x5 x6 x7 x8 xr; obtain ⟨⟨x0, x1, x2, x3, x4, x5, x6, x7, x8⟩, xr⟩ := up.out w3 (H2.out.trans (b3.mono H2.out.size)); have H3 := hide (H2.out.trans (b3.mono H2.out.size)); clear b3 kva)
        | (go_at_call 23; refine (kvb _ H3.out).mono ?_; rintro e w4 ⟨rfl, b4⟩; clear x0 x1 x2 x3 x4 x5 x6 x7 x8 xr; obtain ⟨⟨x0, x1, x2, x3, x4, x5, x6, x7, x8⟩, xr⟩ := up.out w4 (H3.out.trans (b4.mono H3.out.size)); have H4 := hide (H3.out.trans (b4.mono H3.out.size)); clear b4 kvb))
      try rw [wz']
      obtain ⟨w6, hw6⟩ : ∃ w6, w6 = w4 := ⟨_, rfl⟩
      rw [← hw6] at x0 x2 x5 x8 ⊢
      have H6 : Hid (Below w1.heap.size w1 w6) := by rw [hw6]; exact H4
      have hS : w6.cell? ⟨Bo, 0, none⟩ = some (.int .i64 kb) ∧ w6.cell? ⟨Bo, 2, none⟩ = some (.slice oo NO co) ∧ w6.cell? ⟨Ba, 2, none⟩ = some (.slice oa NA ca) ∧ w6.cell? ⟨Bb, 2, none⟩ = some (.slice ob NB cb) ∧ Hid (Below w1.heap.size w1 w6 ∨ Below w.heap.size w w6) := ⟨x0, x2, x5, x8, hide (.inl H6.out)⟩
      clear hw6 x0 x1 x2 x3 x4 x5 x6 x7 x8 xr
      have qd : w6.drew.cell? ⟨Bo, 0, none⟩ = some (.int .i64 kb) ∧ w6.drew.cell? ⟨Bo, 2, none⟩ = some (.slice oo NO co) ∧ w6.drew.cell? ⟨Ba, 2, none⟩ = some (.slice oa NA ca) ∧ w6.drew.cell? ⟨Bb, 2, none⟩ = some (.slice ob NB cb) ∧ Hid (Below w1.heap.size w1 w6.drew ∨ Below w.heap.size w w6.drew) := ⟨hS.1, hS.2.1, hS.2.2.1, hS.2.2.2.1, hide (.inl (H6.out.trans ((drew_below w6).mono H6.out.size)))⟩
      have Hd := hide (H6.out.trans ((drew_below w6).mono H6.out.size))
      refine wp_region_held_drew (S := (fun w' => w'.cell? ⟨Bo, 0, none⟩ = some (.int .i64 kb) ∧ w'.cell? ⟨Bo, 2, none⟩ = some (.slice oo NO co) ∧ w'.cell? ⟨Ba, 2, none⟩ = some (.slice oa NA ca) ∧ w'.cell? ⟨Bb, 2, none⟩ = some (.slice ob NB cb) ∧ Hid (Below w1.heap.size w1 w' ∨ Below w.heap.size w w'))) (by kernel_rfl) qd (fun hHeld => ?_)
      try dsimp only at hHeld
      refine take_op (i := 0) (d := 45) (OP := Op.fieldAddr 30 (Operand.tmp 3) 0) (T := 0) (v := ?vzz15) rfl rfl rfl rfl (by kernel_rfl) (by kernel_rfl) (by kernel_rfl) (fun _ _ _ h => h) (by rfl) ?hzz15 hHeld ?rzz15
      case hzz15 => (intro w' hSw; (try dsimp only at hSw); go_simp <;> with_reducible rfl)
      try simp only [Act.put, List.setIfInBounds_toArray, List.set_cons_zero, List.set_cons_succ]
      refine take_op (i := 1) (d := 46) (OP := Op.load 25 (Operand.tmp 45)) (T := 25) (v := ?vzz16) rfl rfl rfl rfl (by kernel_rfl) (by kernel_rfl) (by kernel_rfl) (fun _ _ _ h => h) (by rfl) ?hzz16 hHeld ?rzz16
      case hzz16 => (intro w' hSw; (try dsimp only at hSw); go_simp <;> with_reducible rfl)
      try simp only [Act.put, List.setIfInBounds_toArray, List.set_cons_zero, List.set_cons_succ]
      refine take_op (i := 2) (d := 47) (OP := Op.move (Operand.tmp 8)) (T := 2) (v := ?vzz17) rfl rfl rfl rfl (by kernel_rfl) (by kernel_rfl) (by kernel_rfl) (fun _ _ _ h => h) (by rfl) ?hzz17 hHeld ?rzz17
      case hzz17 => (intro w' hSw; (try dsimp only at hSw); go_simp <;> with_reducible rfl)
      try simp only [Act.put, List.setIfInBounds_toArray, List.set_cons_zero, List.set_cons_succ]
      refine take_op (i := 3) (d := 48) (OP := Op.fieldAddr 30 (Operand.tmp 3) 2) (T := 0) (v := ?vzz18) rfl rfl rfl rfl (by kernel_rfl) (by kernel_rfl) (by kernel_rfl) (fun _ _ _ h => h) (by rfl) ?hzz18 hHeld ?rzz18
      case hzz18 => (intro w' hSw; (try dsimp only at hSw); go_simp <;> with_reducible rfl)
      try simp only [Act.put, List.setIfInBounds_toArray, List.set_cons_zero, List.set_cons_succ]
      refine take_op (i := 4) (d := 49) (OP := Op.load 28 (Operand.tmp 48)) (T := 28) (v := ?vzz19) rfl rfl rfl rfl (by kernel_rfl) (by kernel_rfl) (by kernel_rfl) (fun _ _ _ h => h) (by rfl) ?hzz19 hHeld ?rzz19
      case hzz19 => (intro w' hSw; (try dsimp only at hSw); go_simp <;> with_reducible rfl)
      try simp only [Act.put, List.setIfInBounds_toArray, List.set_cons_zero, List.set_cons_succ]
      refine take_op (i := 5) (d := 50) (OP := Op.fieldAddr 30 (Operand.tmp 4) 2) (T := 0) (v := ?vzz20) rfl rfl rfl rfl (by kernel_rfl) (by kernel_rfl) (by kernel_rfl) (fun _ _ _ h => h) (by rfl) ?hzz20 hHeld ?rzz20
      case hzz20 => (intro w' hSw; (try dsimp only at hSw); go_simp <;> with_reducible rfl)
      try simp only [Act.put, List.setIfInBounds_toArray, List.set_cons_zero, List.set_cons_succ]
      refine take_op (i := 6) (d := 51) (OP := Op.load 28 (Operand.tmp 50)) (T := 28) (v := ?vzz21) rfl rfl rfl rfl (by kernel_rfl) (by kernel_rfl) (by kernel_rfl) (fun _ _ _ h => h) (by rfl) ?hzz21 hHeld ?rzz21
      case hzz21 => (intro w' hSw; (try dsimp only at hSw); go_simp <;> with_reducible rfl)
      try simp only [Act.put, List.setIfInBounds_toArray, List.set_cons_zero, List.set_cons_succ]
      refine take_op (i := 7) (d := 52) (OP := Op.fieldAddr 30 (Operand.tmp 5) 2) (T := 0) (v := ?vzz22) rfl rfl rfl rfl (by kernel_rfl) (by kernel_rfl) (by kernel_rfl) (fun _ _ _ h => h) (by rfl) ?hzz22 hHeld ?rzz22
      case hzz22 => (intro w' hSw; (try dsimp only at hSw); go_simp <;> with_reducible rfl)
      try simp only [Act.put, List.setIfInBounds_toArray, List.set_cons_zero, List.set_cons_succ]
      refine take_op (i := 8) (d := 53) (OP := Op.load 28 (Operand.tmp 52)) (T := 28) (v := ?vzz23) rfl rfl rfl rfl (by kernel_rfl) (by kernel_rfl) (by kernel_rfl) (fun _ _ _ h => h) (by rfl) ?hzz23 hHeld ?rzz23
      case hzz23 => (intro w' hSw; (try dsimp only at hSw); go_simp <;> with_reducible rfl)
      try simp only [Act.put, List.setIfInBounds_toArray, List.set_cons_zero, List.set_cons_succ]
      refine call_op (i := 9) (d := 54) (OP := Op.call { callee := Callee.value (Operand.func 27), args := #[Operand.tmp 49, Operand.tmp 51, Operand.tmp 53], argTypes := #[28, 28, 28] }) (T := 28) (f := 27) (args := #[.slice oo NO co, .slice oa NA ca, .slice ob NB cb]) rfl rfl rfl rfl (by kernel_rfl) (by rfl) (by go_simp) ?_
      refine (k66 _ Hd.out).mono ?_
      rintro e z ⟨a7, c7, rfl, hnv, bz⟩
      have Hz := hide (Hd.out.trans (bz.mono Hd.out.size))
      have qz : z.cell? ⟨Bo, 0, none⟩ = some (.int .i64 kb) ∧ z.cell? ⟨Bo, 2, none⟩ = some (.slice oo NO co) ∧ z.cell? ⟨Ba, 2, none⟩ = some (.slice oa NA ca) ∧ z.cell? ⟨Bb, 2, none⟩ = some (.slice ob NB cb) ∧ Hid (Below w1.heap.size w1 z ∨ Below w.heap.size w z) := ⟨cell_stays hHeld.1 bz, cell_stays hHeld.2.1 bz, cell_stays hHeld.2.2.1 bz, cell_stays hHeld.2.2.2.1 bz, hide (.inl Hz.out)⟩
      refine ⟨_, rfl, qz, ?_⟩
      replace hHeld := qz
      have HNV := hide hnv
      clear hnv bz qz
      try simp only [Act.put, List.setIfInBounds_toArray, List.set_cons_zero, List.set_cons_succ]
      refine take_op (i := 10) (d := 55) (OP := Op.build 30 #[(0, Operand.tmp 46), (1, Operand.tmp 47), (2, Operand.tmp 54)]) (T := 30) (v := ?vzz24) rfl rfl rfl rfl (by kernel_rfl) (by kernel_rfl) (by kernel_rfl) (fun _ _ _ h => h) (by rfl) ?hzz24 hHeld ?rzz24
      case hzz24 => (intro w' hSw; (try dsimp only at hSw); go_simp <;> with_reducible rfl)
      try simp only [Act.put, List.setIfInBounds_toArray, List.set_cons_zero, List.set_cons_succ]
      have hrow : z.heap[Br]? = some (.cells #[.int .i64 0, .int .i64 0, .slice none 0 0] 30 (0, 0)) := (up.out z Hz.out).2
      obtain ⟨s1, s2, s3⟩ := rowV hrow (.int .i64 kb) (.int .i64 NN) (.slice a7 M c7)
      obtain ⟨y, hy⟩ : ∃ y, y = z.setCells Br 0 [.int .i64 kb, .int .i64 NN, .slice a7 M c7] := ⟨_, rfl⟩
      rw [← hy] at s1 s2
      have hyb := hret.out _ _ Hz.out s2
      have qy : y.cell? ⟨Bo, 0, none⟩ = some (.int .i64 kb) ∧ y.cell? ⟨Bo, 2, none⟩ = some (.slice oo NO co) ∧ y.cell? ⟨Ba, 2, none⟩ = some (.slice oa NA ca) ∧ y.cell? ⟨Bb, 2, none⟩ = some (.slice ob NB cb) ∧ Hid (Below w1.heap.size w1 y ∨ Below w.heap.size w y) := ⟨s2.cell hHeld.1 (by have := HW.out; simp only; omega), s2.cell hHeld.2.1 (by have := HW.out; simp only; omega), s2.cell hHeld.2.2.1 (by have := HW.out; simp only; omega), s2.cell hHeld.2.2.2.1 (by have := HW.out; simp only; omega), hide (.inr hyb)⟩
      refine skip_op (i := 11) (OP := Op.store 30 (Operand.tmp 6) (Operand.tmp 55)) (T := 0) (w' := y) rfl rfl rfl rfl (by kernel_rfl) (by rfl) (by rw [hy]; exact exec_storeV rfl rfl hrow) ⟨qy, ?_⟩
      replace hHeld := qy
      try simp only [Act.put, List.setIfInBounds_toArray, List.set_cons_zero, List.set_cons_succ]
      refine take_op (i := 12) (d := 7) (OP := Op.assign (Operand.const (Value.int IntKind.i64 0))) (T := 31) (v := ?vzz25) rfl rfl rfl rfl (by kernel_rfl) (by kernel_rfl) (by kernel_rfl) (fun _ _ _ h => h) (by rfl) ?hzz25 hHeld ?rzz25
      case hzz25 => (intro w' hSw; (try dsimp only at hSw); go_simp <;> with_reducible rfl)
      try simp only [Act.put, List.setIfInBounds_toArray, List.set_cons_zero, List.set_cons_succ]
      refine wpAnyH_done (by kernel_rfl) ?_ _
      have HY := hide (And.intro s1 (And.intro s2 hyb))
      clear s1 s2 s3 hyb hHeld qy qd hS hrow hy
      go_wp2
      refine ret_row_tmp Br [.int .i64 kb, .int .i64 NN, .slice a7 M c7] rfl rfl rfl Tryd.underlying30 rfl Tryd.info30 HY.out.1 rfl ?_
      refine ⟨a7, c7, by rw [← HNN.out, ← HW.out.2.2.1]; rfl, ⟨⟨⟨HNV.out.rv.re.1, fun a ha j u hj => ?_⟩, HNV.out.rv.cap, HNV.out.rv.nil, HNV.out.rv.spot⟩, fun a ha => ?_⟩, HY.out.2.2⟩
      · have hnew := HNV.out.new a ha
        have hbl : (a.add j).block = a.block := by unfold Addr.add; split <;> rfl
        refine HY.out.2.1.cell (HNV.out.rv.re.2 a ha j u hj) ?_
        have h6s : w1.heap.size ≤ w6.drew.heap.size := Hd.out.size
        have := HW.out
        rw [hbl]; omega
      · have hnew := HNV.out.new a ha
        have h6s : w1.heap.size ≤ w6.drew.heap.size := Hd.out.size
        have := HW.out
        omega
    · have e1 : (ka == ko) = true := by simpa using h1
      have e2 : (kb == ko) = false := by simpa using h2
      rw [if_pos (.inr (.inr (.inr (.inr h2))))]
      have x1' := h1
      subst h1
      go_enter Tryd.func14, Tryd.ntmps14
      go_upto_region 1 with fail
      have e1 := HW.out.1
      obtain ⟨-, -, -, -, eBo, eBa, eBb, eBr⟩ := HW.out
      rw [← e1, ← eBr, ← eBb, ← eBa, ← eBo]
      clear e1 eBo eBa eBb eBr
      go_wp2_with (first
        | (go_at_call 23; refine kvo1.mono ?_; rintro e w2 ⟨rfl, b2⟩; clear x0 x1 x2 x3 x4 x5 x6 x7 x8 xr; obtain ⟨⟨x0, x1, x2, x3, x4, x5, x6, x7, x8⟩, xr⟩ := up.out w2 b2; have H2 := hide b2; clear b2 kvo1)
        | (go_at_call 23; refine (kva _ H2.out).mono ?_; rintro e w3 ⟨rfl, b3⟩; clear x0 x1 x2 x3 x4 x5 x6 x7 x8 xr; obtain ⟨⟨x0, x1, x2, x3, x4, x5, x6, x7, x8⟩, xr⟩ := up.out w3 (H2.out.trans (b3.mono H2.out.size)); have H3 := hide (H2.out.trans (b3.mono H2.out.size)); clear b3 kva)
        | (go_at_call 23; refine (kvb _ H3.out).mono ?_; rintro e w4 ⟨rfl, b4⟩; clear x0 x1 x2 x3 x4 x5 x6 x7 x8 xr; obtain ⟨⟨x0, x1, x2, x3, x4, x5, x6, x7, x8⟩, xr⟩ := up.out w4 (H3.out.trans (b4.mono H3.out.size)); have H4 := hide (H3.out.trans (b4.mono H3.out.size)); clear b4 kvb)
        | (refine wpList_storeV rfl rfl _ _ rfl Br 0 0 none 0 0 rfl rfl xr ?_; intro w9 H9))
      refine ret_row_tmp Br [.int .i64 0, .int .i64 0, .slice none 0 0] rfl rfl rfl Tryd.underlying30 rfl Tryd.info30 H9.out.1 rfl ?_
      exact ValE.bad 2 (hret.out _ _ H4.out H9.out.2)
  · have e1 : (ka == ko) = false := by simpa using h1
    rw [if_pos (.inr (.inr (.inr (.inl h1))))]
    go_enter Tryd.func14, Tryd.ntmps14
    go_upto_region 1 with fail
    have e1 := HW.out.1
    obtain ⟨-, -, -, -, eBo, eBa, eBb, eBr⟩ := HW.out
    rw [← e1, ← eBr, ← eBb, ← eBa, ← eBo]
    clear e1 eBo eBa eBb eBr
    go_wp2_with (first
      | (go_at_call 23; refine kvo1.mono ?_; rintro e w2 ⟨rfl, b2⟩; clear x0 x1 x2 x3 x4 x5 x6 x7 x8 xr; obtain ⟨⟨x0, x1, x2, x3, x4, x5, x6, x7, x8⟩, xr⟩ := up.out w2 b2; have H2 := hide b2; clear b2 kvo1)
      | (go_at_call 23; refine (kva _ H2.out).mono ?_; rintro e w3 ⟨rfl, b3⟩; clear x0 x1 x2 x3 x4 x5 x6 x7 x8 xr; obtain ⟨⟨x0, x1, x2, x3, x4, x5, x6, x7, x8⟩, xr⟩ := up.out w3 (H2.out.trans (b3.mono H2.out.size)); have H3 := hide (H2.out.trans (b3.mono H2.out.size)); clear b3 kva)
      | (go_at_call 23; refine (kvb _ H3.out).mono ?_; rintro e w4 ⟨rfl, b4⟩; clear x0 x1 x2 x3 x4 x5 x6 x7 x8 xr; obtain ⟨⟨x0, x1, x2, x3, x4, x5, x6, x7, x8⟩, xr⟩ := up.out w4 (H3.out.trans (b4.mono H3.out.size)); have H4 := hide (H3.out.trans (b4.mono H3.out.size)); clear b4 kvb)
      | (refine wpList_storeV rfl rfl _ _ rfl Br 0 0 none 0 0 rfl rfl xr ?_; intro w9 H9))
    refine ret_row_tmp Br [.int .i64 0, .int .i64 0, .slice none 0 0] rfl rfl rfl Tryd.underlying30 rfl Tryd.info30 H9.out.1 rfl ?_
    exact ValE.bad 2 (hret.out _ _ H4.out H9.out.2)
end Go.Proofs.YtkdgageljgfgoaaDoor
