/-
  OPS: known 9.
  OPS: small 8.
  OPS: OpsWrites 3, its walk.
-/
import Derived.Test.YtpepgoelnagoaaaGreatDoorMg18
import Derived.Test.YtpepgoelnagoaaaGreatDoorMg9
namespace Go.Proofs.YtpepgoelnagoaaaGreatDoor
open Go.RowKit Go.Shelf
set_option linter.unusedSimpArgs false
set_option linter.unusedVariables false
attribute [local go_sem] Oper.semAt_some

abbrev addV : Value := .agg #[.slice none 0 0, .int .i64 1, .string ⟨#[104, 105, 116, 115]⟩, .int .i64 1, .int .i64 3, .string ⟨#[]⟩]
abbrev popV (pa : Option Addr) : Value := .agg #[.slice pa 2 2, .int .i64 4, .string ⟨#[113]⟩, .int .i64 6, .int .i64 0, .string ⟨#[]⟩]
theorem rp_nil (W : World) : Ki.Rp W none 0 addO.p := ⟨Rs.nil _ _, by decide, fun _ => rfl, by decide⟩
theorem i64_add : I64 addO.n := ⟨by decide, by decide⟩
theorem i64_pop : I64 popO.n := ⟨by decide, by decide⟩
theorem kn_a (W : World) (hT : Tabs W) : Calls Tryz.prog 11 #[addV] W fun e w' => ∃ a c, e = .returned (.tuple #[.slice a 8 c, .int .i64 0]) ∧ Rd w' a [1, 0, 4, 104, 105, 116, 115, 6] ∧ Below W.heap.size W w' := by
  have h := bytesO_any (pc := 0) addO (rp_nil W) i64_add hT
  have he : frE addO = [1, 0, 4, 104, 105, 116, 115, 6] := by unfold frE; rw [if_pos chk_add, fr_add]
  rw [he, chk_add] at h
  refine Calls.mono (show Calls Tryz.prog 11 #[addV] W _ from h) ?_
  rintro e w' ⟨a, c, rfl, ho, -, hb⟩
  exact ⟨a, c, rfl, ho.rd, hb⟩
theorem kn_p (W : World) (pa : Option Addr) (hp : Ki.Rp W pa 2 popO.p) (hT : Tabs W) : Calls Tryz.prog 11 #[popV pa] W fun e w' => ∃ a c, e = .returned (.tuple #[.slice a 8 c, .int .i64 0]) ∧ Rd w' a [6, 2, 1, 97, 1, 98, 1, 113] ∧ Below W.heap.size W w' := by
  have h := bytesO_any (pc := 2) popO hp i64_pop hT
  have he : frE popO = [6, 2, 1, 97, 1, 98, 1, 113] := by unfold frE; rw [if_pos chk_pop, fr_pop]
  rw [he, chk_pop] at h
  refine Calls.mono (show Calls Tryz.prog 11 #[popV pa] W _ from h) ?_
  rintro e w' ⟨a, c, rfl, ho, -, hb⟩
  exact ⟨a, c, rfl, ho.rd, hb⟩
theorem wrong_two : wrongL [addO, popO] = 0 := by kernel_rfl
theorem i64_two : ∀ o ∈ [addO, popO], I64 o.n := by
  intro o ho
  simp only [List.mem_cons, List.not_mem_nil, or_false] at ho
  rcases ho with rfl | rfl
  · exact i64_add
  · exact i64_pop
/-- The two of the chapter, in a row. -/
abbrev twoC (pa : Option Addr) : Array Value := #[.slice none 0 0, .int .i64 1, .string ⟨#[104, 105, 116, 115]⟩, .int .i64 1, .int .i64 3, .string ⟨#[]⟩, .slice pa 2 2, .int .i64 4, .string ⟨#[113]⟩, .int .i64 6, .int .i64 0, .string ⟨#[]⟩]
theorem rq_two {W : World} {b : Nat} {pa : Option Addr} (h : W.heap[b]? = some (.cells (twoC pa) 34 (0, 0))) (hp : Ki.Rp W pa 2 popO.p) : Rq W (some ⟨b, 0, none⟩) [addO, popO] := by
  intro i o ho
  have c := fun k v (hv : (twoC pa)[k]? = some v) => (cell_of_row _ _ k _ 34 (0, 0) h).trans hv
  match i, ho with
  | 0, ho => cases ho; exact ⟨b, 0, none, 0, rfl, rp_nil W, c 0 _ rfl, c 1 _ rfl, c 2 _ rfl, c 3 _ rfl, c 4 _ rfl, c 5 _ rfl⟩
  | 1, ho => cases ho; exact ⟨b, 0, pa, 2, rfl, hp, c 6 _ rfl, c 7 _ rfl, c 8 _ rfl, c 9 _ rfl, c 10 _ rfl, c 11 _ rfl⟩
theorem kn_t2 (W : World) (ao : Option Addr) (c : Nat) (hr : Rq W ao [addO, popO]) (hE : EnvO W) : Calls Tryz.prog 18 #[.slice ao 2 c] W fun e w' => e = .returned (.tuple #[.string knS, .int .i64 0]) ∧ Below W.heap.size W w' := by
  have h := textAllP_any (c := c) [addO, popO] hr i64_two hE (by decide)
  have he : txW' [addO, popO] = knS := by unfold txW'; rw [if_pos wrong_two, kn_text]
  rw [he, wrong_two] at h
  exact h
theorem kn_t0 (W : World) (hE : EnvO W) : Calls Tryz.prog 18 #[.slice none 0 0] W fun e w' => e = .returned (.tuple #[.string ⟨#[46]⟩, .int .i64 0]) ∧ Below W.heap.size W w' := by
  have h := textAllP_any (c := 0) [] (Rq.nil W none) (by simp) hE (by decide)
  have hw : wrongL [] = 0 := by kernel_rfl
  have he : txW' [] = ⟨#[46]⟩ := by unfold txW'; rw [if_pos hw]; rfl
  rw [he, hw] at h
  exact h
theorem kn_n (W : World) (hE : EnvO W) : Calls Tryz.prog 34 #[.string ⟨#[97, 100, 100, 32, 47, 32, 104, 105, 116, 115, 32, 48, 51]⟩] W fun e w' => ∃ pa pc, e = .returned (.tuple #[.agg #[.slice pa 0 pc, .int .i64 0, .string ⟨#[]⟩, .int .i64 0, .int .i64 0, .string ⟨#[]⟩], .int .i64 4]) ∧ Below W.heap.size W w' := by
  have h := parse34_any ⟨#[97, 100, 100, 32, 47, 32, 104, 105, 116, 115, 32, 48, 51]⟩ W (by decide) hE (.inl (by kernel_rfl))
  rw [kn_no] at h
  refine h.mono ?_
  rintro e w' ⟨pa, pc, rfl, -, hb⟩
  exact ⟨pa, pc, rfl, hb⟩
theorem kn_pieces : piecesA knS = [⟨#[97, 100, 100, 32, 47, 32, 104, 105, 116, 115, 32, 51]⟩, ⟨#[112, 111, 112, 32, 47, 97, 47, 98, 32, 113]⟩] := by kernel_rfl
theorem kn_l (W : World) (hE : EnvO W) : Calls Tryz.prog 36 #[.string knS] W fun e w' => ∃ a c, e = .returned (.tuple #[.slice a 2 c, .int .i64 0]) ∧ Rq w' a [addO, popO] ∧ Below W.heap.size W w' := by
  have h := parseAll36_any knS W (by decide) hE (.inl (by rw [kn_pieces]; intro x hx; simp only [List.mem_cons, List.not_mem_nil, or_false] at hx; rcases hx with rfl | rfl <;> kernel_rfl))
  rw [kn_all] at h
  refine h.mono ?_
  rintro e w' ⟨v, rfl, xs, hx, ho, hb⟩
  obtain ⟨a, c, hv, hr, -, -, -⟩ := ho.shape
  have hl : xs.length = 2 := by have := congrArg List.length hx; simpa using this
  rw [hl] at hv
  rw [hx] at hr
  subst hv
  exact ⟨a, c, rfl, hr, hb⟩
theorem kn_s1 (W : World) (pa qa : Option Addr) (h : Ki.Rp W pa 2 popO.p) (k : Ki.Rp W qa 2 popO.p) : Calls Tryz.prog 41 #[.agg #[.slice pa 2 2, .int .i64 5, .string ⟨#[113]⟩, .int .i64 6, .int .i64 0, .string ⟨#[]⟩], popV qa] W fun e w' => e = .returned (.bool false) ∧ Below W.heap.size W w' := by
  have := same41_any (pc := 2) (qc := 2) ⟨popO.p, 5, popO.s, popO.d, popO.n, popO.t⟩ popO h.rs k.rs (by decide) (by decide)
  have he : sameO ⟨popO.p, 5, popO.s, popO.d, popO.n, popO.t⟩ popO = false := by kernel_rfl
  rw [he] at this
  exact this
theorem kn_s2 (W : World) (pa qa : Option Addr) (h : Ki.Rp W pa 2 popO.p) (k : Ki.Rp W qa 2 popO.p) : Calls Tryz.prog 41 #[popV pa, popV qa] W fun e w' => e = .returned (.bool true) ∧ Below W.heap.size W w' := by
  have := same41_any (pc := 2) (qc := 2) popO popO h.rs k.rs (by decide) (by decide)
  rw [(sameO_iff popO popO).2 rfl] at this
  exact this
theorem kn_q (W : World) (a b : Option Addr) (c d : Nat) (h : Rq W a [addO, popO]) (k : Rq W b [addO, popO]) : Calls Tryz.prog 20 #[.slice a 2 c, .slice b 2 d] W fun e w' => e = .returned (.bool true) ∧ Below W.heap.size W w' := by
  have hp : ∀ o ∈ [addO, popO], o.p.length ≤ 1000000 := by
    intro o ho
    simp only [List.mem_cons, List.not_mem_nil, or_false] at ho
    rcases ho with rfl | rfl <;> decide
  have := same20_any (c := c) (d := d) [addO, popO] [addO, popO] h k (by decide) hp hp
  rw [(sameL_iff _ _).2 rfl] at this
  exact this
theorem up {w a b : World} (h : Below w.heap.size w a) (k : Below a.heap.size a b) : Below w.heap.size w b := h.trans (k.mono h.size)

set_option maxHeartbeats 8000000 in
set_option maxRecDepth 100000 in
theorem known9_any {w : World} (hE : EnvO w) : Calls Tryz.prog 9 #[] w fun e w' => e = .returned (.bool true) ∧ Below w.heap.size w w' := by
  have kAdd : ∀ W, Calls Tryz.prog 43 #[] W fun e w' => e = .returned addV ∧ Below W.heap.size W w' := fun W => add43_any W
  have kPop : ∀ W, Calls Tryz.prog 42 #[] W fun e w' => ∃ pa, e = .returned (popV pa) ∧ Ki.Rp w' pa 2 popO.p ∧ Below W.heap.size W w' := fun W => pop42_any W
  have HE := hide hE
  clear hE
  have kA := fun W => kn_a W
  have kP := fun W => kn_p W
  have kS1 := fun W => kn_s1 W
  have kS2 := fun W => kn_s2 W
  have k14 := fun n W => num14_any n W
  go_enter Tryz.func9, Tryz.ntmps9
  go_upto_region 2 with (first
    | (go_at_call 11; refine (kA _ (HE.out.below D0.out).tabs).mono ?_; rintro e w1 ⟨a1, c1, rfl, r1, d1⟩; have D1 := hide (up D0.out d1); have R1 := hide r1; clear d1 r1 D0)
    | (go_at_call 43; refine (kAdd _).mono ?_; rintro e w0 ⟨rfl, d0⟩; have D0 := hide d0; clear d0))
  go_upto_region 3 with (first
    | (go_at_call 11; refine (kP _ pb HPb.out ((HE.out.below D1.out).below D2.out).tabs).mono ?_; rintro e w3 ⟨a3, c3, rfl, r3, d3⟩; have D3 := hide (up (up D1.out D2.out) d3); have R3 := hide (And.intro ((R1.out.below D2.out).below d3) r3); clear d3 r3 D1 D2 R1 HPb)
    | (go_at_call 42; refine (kPop _).mono ?_; rintro e w2 ⟨pb, rfl, rp, d2⟩; have D2 := hide d2; have HPb := hide rp; clear d2 rp))
  go_upto_region 4 with (first
    | (go_at_call 18; refine (kn_t2 _ _ 2 (rq_two (heap_alloc_new w5 (.cells (twoC pd) 34)) (HPd.out.below ((Below.refl _ w5).alloc (Nat.le_refl _) _))) (HE.out.below (up D5.out ((Below.refl _ w5).alloc (Nat.le_refl _) _)))).mono ?_; rintro e w6 ⟨rfl, d6⟩; have D6 := hide (up (up D5.out ((Below.refl _ w5).alloc (Nat.le_refl _) _)) d6); have R6 := hide (And.intro ((R5.out.1.below ((Below.refl _ w5).alloc (Nat.le_refl _) _)).below d6) ((R5.out.2.below ((Below.refl _ w5).alloc (Nat.le_refl _) _)).below d6)); clear d6 D5 R5 HPd)
    | (go_at_call 42; refine (kPop _).mono ?_; rintro e w5 ⟨pd, rfl, rp, d5⟩; have D5 := hide (up D4.out d5); have R5 := hide (And.intro (R4.out.1.below d5) (R4.out.2.below d5)); have HPd := hide rp; clear d5 rp D4 R4)
    | (go_at_call 43; refine (kAdd _).mono ?_; rintro e w4 ⟨rfl, d4⟩; have D4 := hide (up D3.out d4); have R4 := hide (And.intro (R3.out.1.below d4) (R3.out.2.below d4)); clear d4 D3 R3))
  go_upto_region 5 with (go_at_call 18; refine (kn_t0 _ (HE.out.below D6.out)).mono ?_; rintro e wa ⟨rfl, da⟩; have Da := hide (up D6.out da); have Ra := hide (And.intro (R6.out.1.below da) (R6.out.2.below da)); clear da D6 R6)
  go_upto_region 6 with (go_at_call 34; refine (kn_n _ (HE.out.below Da.out)).mono ?_; rintro e wb ⟨qb, cb, rfl, db⟩; have Db := hide (up Da.out db); have Rb := hide (And.intro (Ra.out.1.below db) (Ra.out.2.below db)); clear db Da Ra)
  obtain ⟨wc, hwc⟩ : ∃ q, q = wb.alloc (.cells #[.slice qb 0 cb, .int .i64 0, .string ⟨#[]⟩, .int .i64 0, .int .i64 0, .string ⟨#[]⟩] 34) := ⟨_, rfl⟩
  rw [← hwc]
  have dc : Below wb.heap.size wb wc := by rw [hwc]; exact (Below.refl _ _).alloc (Nat.le_refl _) _
  have Dc := hide (up Db.out dc)
  have Rc := hide (And.intro (Rb.out.1.below dc) (Rb.out.2.below dc))
  clear dc hwc Db Rb
  go_upto_region 7 with (go_at_call 36; refine (kn_l _ (HE.out.below Dc.out)).mono ?_; rintro e wd ⟨al, cl, rfl, rq, dd⟩; have Dd := hide (up Dc.out dd); have Rd' := hide (And.intro (Rc.out.1.below dd) (And.intro (Rc.out.2.below dd) rq)); clear dd rq Dc Rc)
  go_upto_region 9 with (go_at_call 42; refine (kPop _).mono ?_; rintro e we ⟨p7, rfl, rp, de⟩; have De := hide (up Dd.out de); have Re := hide (And.intro (Rd'.out.1.below de) (And.intro (Rd'.out.2.1.below de) (Rd'.out.2.2.below de))); have HP7 := hide rp; clear de rp Dd Rd')
  obtain ⟨w8, hw8⟩ : ∃ q, q = we.alloc (.cells #[.slice p7 2 2, .int .i64 5, .string ⟨#[113]⟩, .int .i64 6, .int .i64 0, .string ⟨#[]⟩] 34) := ⟨_, rfl⟩
  rw [← hw8]
  have d8 : Below we.heap.size we w8 := by rw [hw8]; exact (Below.refl _ _).alloc (Nat.le_refl _) _
  have m8 : w8.heap[we.heap.size]? = some (.cells #[.slice p7 2 2, .int .i64 5, .string ⟨#[113]⟩, .int .i64 6, .int .i64 0, .string ⟨#[]⟩] 34 (0, 0)) := by rw [hw8]; exact heap_alloc_new _ _
  obtain ⟨B13, hB13⟩ : ∃ q, q = we.heap.size := ⟨_, rfl⟩
  rw [← hB13] at m8 ⊢
  have D8 := hide (up De.out d8)
  have R8 := hide (And.intro (Re.out.1.below d8) (And.intro (Re.out.2.1.below d8) (Re.out.2.2.below d8)))
  have HR7 := hide (HP7.out.below d8)
  obtain ⟨⟨q0, q1, q2, q3, q4, q5⟩, -⟩ := blk6 m8
  clear m8 d8 hw8 hB13 De Re HP7
  have HS : Hid (∀ W, Below w8.heap.size w8 W → W.cell? ⟨B13, 0, none⟩ = some (.slice p7 2 2) ∧ W.cell? ⟨B13, 1, none⟩ = some (.int .i64 5) ∧ W.cell? ⟨B13, 2, none⟩ = some (.string ⟨#[113]⟩) ∧ W.cell? ⟨B13, 3, none⟩ = some (.int .i64 6) ∧ W.cell? ⟨B13, 4, none⟩ = some (.int .i64 0) ∧ W.cell? ⟨B13, 5, none⟩ = some (.string ⟨#[]⟩)) := hide (fun W hW => ⟨Ki.cell_stays q0 hW, Ki.cell_stays q1 hW, Ki.cell_stays q2 hW, Ki.cell_stays q3 hW, Ki.cell_stays q4 hW, Ki.cell_stays q5 hW⟩)
  refine wp_region_held_drew (S := fun w' => w'.cell? ⟨B13, 0, none⟩ = some (.slice p7 2 2) ∧ w'.cell? ⟨B13, 1, none⟩ = some (.int .i64 5) ∧ w'.cell? ⟨B13, 2, none⟩ = some (.string ⟨#[113]⟩) ∧ w'.cell? ⟨B13, 3, none⟩ = some (.int .i64 6) ∧ w'.cell? ⟨B13, 4, none⟩ = some (.int .i64 0) ∧ w'.cell? ⟨B13, 5, none⟩ = some (.string ⟨#[]⟩)) (by kernel_rfl) (HS.out _ (Below.refl _ _).drew) (fun hHeld => ?_)
  obtain ⟨Wd, hWd⟩ : ∃ q, q = w8.drew := ⟨_, rfl⟩
  have b0 : Below w8.heap.size w8 Wd := by rw [hWd]; exact (Below.refl _ _).drew
  rw [← hWd] at hHeld ⊢
  clear hWd q0 q1 q2 q3 q4 q5
  refine take_op (i := 0) (d := 46) (OP := Op.load 34 (Operand.tmp 13)) (T := 34) (v := ?vog1) rfl rfl rfl rfl (by kernel_rfl) (by kernel_rfl) (by kernel_rfl) (fun _ _ _ h => h) (by rfl) ?hog1 hHeld ?rog1
  case hog1 => (intro w' hSw; (try dsimp only at hSw); go_simp <;> with_reducible rfl)
  try simp only [Act.put, List.setIfInBounds_toArray, List.set_cons_zero, List.set_cons_succ]
  refine call_op (i := 1) (d := 47) (OP := Op.call { callee := Callee.value (Operand.func 42), args := #[], argTypes := #[] }) (T := 34) (f := 42) (args := #[]) rfl rfl rfl rfl (by kernel_rfl) (by rfl) (by go_simp) ?_
  refine (kPop _).mono ?_
  rintro e y1 ⟨pa1, rfl, ry1, dy1⟩
  have by1 := b0.trans (dy1.mono b0.size)
  have sy1 := HS.out y1 by1
  refine ⟨_, rfl, sy1, ?_⟩
  replace hHeld := sy1
  try simp only [Act.put, List.setIfInBounds_toArray, List.set_cons_zero, List.set_cons_succ]
  refine call_op (i := 2) (d := 48) (OP := Op.call { callee := Callee.value (Operand.func 41), args := #[Operand.tmp 46, Operand.tmp 47], argTypes := #[34, 34] }) (T := 4) (f := 41) (args := #[(.agg #[.slice p7 2 2, .int .i64 5, .string ⟨#[113]⟩, .int .i64 6, .int .i64 0, .string ⟨#[]⟩]), (.agg #[.slice pa1 2 2, .int .i64 4, .string ⟨#[113]⟩, .int .i64 6, .int .i64 0, .string ⟨#[]⟩])]) rfl rfl rfl rfl (by kernel_rfl) (by rfl) (by go_simp) ?_
  refine (kS1 y1 p7 pa1 (HR7.out.below (by1)) ry1).mono ?_
  rintro e y2 ⟨rfl, dy2⟩
  have by2 := by1.trans (dy2.mono by1.size)
  have sy2 := HS.out y2 by2
  refine ⟨_, rfl, sy2, ?_⟩
  replace hHeld := sy2
  try simp only [Act.put, List.setIfInBounds_toArray, List.set_cons_zero, List.set_cons_succ]
  refine take_op (i := 3) (d := 49) (OP := Op.move (Operand.tmp 48)) (T := 4) (v := ?vog2) rfl rfl rfl rfl (by kernel_rfl) (by kernel_rfl) (by kernel_rfl) (fun _ _ _ h => h) (by rfl) ?hog2 hHeld ?rog2
  case hog2 => (intro w' hSw; (try dsimp only at hSw); go_simp <;> with_reducible rfl)
  try simp only [Act.put, List.setIfInBounds_toArray, List.set_cons_zero, List.set_cons_succ]
  refine call_op (i := 4) (d := 50) (OP := Op.call { callee := Callee.value (Operand.func 42), args := #[], argTypes := #[] }) (T := 34) (f := 42) (args := #[]) rfl rfl rfl rfl (by kernel_rfl) (by rfl) (by go_simp) ?_
  refine (kPop _).mono ?_
  rintro e y3 ⟨pa3, rfl, ry3, dy3⟩
  have by3 := by2.trans (dy3.mono by2.size)
  have sy3 := HS.out y3 by3
  refine ⟨_, rfl, sy3, ?_⟩
  replace hHeld := sy3
  try simp only [Act.put, List.setIfInBounds_toArray, List.set_cons_zero, List.set_cons_succ]
  refine call_op (i := 5) (d := 51) (OP := Op.call { callee := Callee.value (Operand.func 42), args := #[], argTypes := #[] }) (T := 34) (f := 42) (args := #[]) rfl rfl rfl rfl (by kernel_rfl) (by rfl) (by go_simp) ?_
  refine (kPop _).mono ?_
  rintro e y4 ⟨pa4, rfl, ry4, dy4⟩
  have by4 := by3.trans (dy4.mono by3.size)
  have sy4 := HS.out y4 by4
  refine ⟨_, rfl, sy4, ?_⟩
  replace hHeld := sy4
  try simp only [Act.put, List.setIfInBounds_toArray, List.set_cons_zero, List.set_cons_succ]
  refine call_op (i := 6) (d := 52) (OP := Op.call { callee := Callee.value (Operand.func 41), args := #[Operand.tmp 50, Operand.tmp 51], argTypes := #[34, 34] }) (T := 4) (f := 41) (args := #[(.agg #[.slice pa3 2 2, .int .i64 4, .string ⟨#[113]⟩, .int .i64 6, .int .i64 0, .string ⟨#[]⟩]), (.agg #[.slice pa4 2 2, .int .i64 4, .string ⟨#[113]⟩, .int .i64 6, .int .i64 0, .string ⟨#[]⟩])]) rfl rfl rfl rfl (by kernel_rfl) (by rfl) (by go_simp) ?_
  refine (kS2 y4 pa3 pa4 (ry3.below dy4) ry4).mono ?_
  rintro e y5 ⟨rfl, dy5⟩
  have by5 := by4.trans (dy5.mono by4.size)
  have sy5 := HS.out y5 by5
  refine ⟨_, rfl, sy5, ?_⟩
  replace hHeld := sy5
  try simp only [Act.put, List.setIfInBounds_toArray, List.set_cons_zero, List.set_cons_succ]
  refine take_op (i := 7) (d := 53) (OP := Op.unOp UnOp.not 4 (Operand.tmp 52)) (T := 4) (v := ?vog3) rfl rfl rfl rfl (by kernel_rfl) (by kernel_rfl) (by kernel_rfl) (fun _ _ _ h => h) (by rfl) ?hog3 hHeld ?rog3
  case hog3 => (intro w' hSw; (try dsimp only at hSw); go_simp <;> with_reducible rfl)
  try simp only [Act.put, List.setIfInBounds_toArray, List.set_cons_zero, List.set_cons_succ]
  refine take_op (i := 8) (d := 54) (OP := Op.pick (Operand.tmp 49) (Operand.const (Value.bool true)) (Operand.tmp 53)) (T := 4) (v := ?vog4) rfl rfl rfl rfl (by kernel_rfl) (by kernel_rfl) (by kernel_rfl) (fun _ _ _ h => h) (by rfl) ?hog4 hHeld ?rog4
  case hog4 => (intro w' hSw; (try dsimp only at hSw); go_simp <;> with_reducible rfl)
  try simp only [Act.put, List.setIfInBounds_toArray, List.set_cons_zero, List.set_cons_succ]
  refine wpAnyH_done (by kernel_rfl) ?_ _
  have b5 := by5
  have hcv1 := conv_rd (cap := c1) (n := 8) (R8.out.1.below by5) rfl
  have hcv3 := conv_rd (cap := c3) (n := 8) (R8.out.2.1.below by5) rfl
  rw [show strOfNums [1, 0, 4, 104, 105, 116, 115, 6] = ⟨#[1, 0, 4, 104, 105, 116, 115, 6]⟩ from by kernel_rfl] at hcv1
  rw [show strOfNums [6, 2, 1, 97, 1, 98, 1, 113] = ⟨#[6, 2, 1, 97, 1, 98, 1, 113]⟩ from by kernel_rfl] at hcv3
  have hks : (knS.toList == [97, 100, 100, 32, 47, 32, 104, 105, 116, 115, 32, 51, 59, 32, 112, 111, 112, 32, 47, 97, 47, 98, 32, 113]) = true := by kernel_rfl
  have D5 := hide (up D8.out by5)
  have RQ := hide (R8.out.2.2.below by5)
  clear HS hHeld by1 by2 by3 by4 by5 b0 b5 sy1 sy2 sy3 sy4 sy5 dy1 dy2 dy3 dy4 dy5 ry1 ry3 ry4 kS1 kS2 D8 R8 HR7
  go_wp2_with (first
    | (go_at_call 20; refine (kn_q _ _ _ cl 2 (RQ3.out.below ((Below.refl _ x3).alloc (Nat.le_refl _) _)) (rq_two (heap_alloc_new x3 (.cells (twoC px) 34)) (HPx.out.below ((Below.refl _ x3).alloc (Nat.le_refl _) _)))).mono ?_; rintro e x4 ⟨rfl, d4⟩; have E4 := hide (up (up E3.out ((Below.refl _ x3).alloc (Nat.le_refl _) _)) d4); clear d4)
    | (go_at_call 42; refine (kPop _).mono ?_; rintro e x3 ⟨px, rfl, rp, d3⟩; have E3 := hide (up E2.out d3); have RQ3 := hide (RQ2.out.below d3); have HPx := hide rp; clear d3 rp E2 RQ2)
    | (go_at_call 43; refine (kAdd _).mono ?_; rintro e x2 ⟨rfl, d2⟩; have E2 := hide (up D5.out d2); have RQ2 := hide (RQ.out.below d2); clear d2 RQ D5)
    | (go_at_call 14; refine (k14 _ _).mono ?_; rintro e x1 ⟨rfl, hx1⟩; subst hx1))
  go_ret
  exact ⟨rfl, E4.out⟩
end Go.Proofs.YtpepgoelnagoaaaGreatDoor
namespace Go.Proofs.YtpepgoelnagoaaaGreatDoor
open Go.RowKit Go.Shelf
set_option linter.unusedSimpArgs false
set_option linter.unusedVariables false
attribute [local go_sem] Oper.semAt_some

/-- Few enough, and short enough. -/
structure SmallL (l : List Od) : Prop where
  len : l.length ≤ 120
  path : ∀ o ∈ l, o.p.length ≤ 60000
  key : ∀ o ∈ l, o.s.size ≤ 60000
  text : ∀ o ∈ l, o.t.size ≤ 60000

def SmallP (ps : List Od) (w : World) (e : Ending) (w' : World) : Prop := ∃ b, e = .returned (.bool b) ∧ (b = true → SmallL ps) ∧ Below w.heap.size w w'
set_option maxHeartbeats 8000000 in
set_option maxRecDepth 100000 in
theorem small8_any (ao : Option Addr) (cap : Nat) (ps : List Od) (w : World) (hr : Rq w ao ps) :
    Calls Tryz.prog 8 #[.slice ao ps.length cap] w (SmallP ps w) := by
  by_cases h120 : 120 < ps.length
  · have h1 : (120 : Int) < (ps.length : Int) := by omega
    clear h120
    go_enter Tryz.func8, Tryz.ntmps8
    go_wp2
    go_ret
    unfold SmallP
    exact ⟨false, rfl, by simp, Below.refl _ _⟩
  have h1 : ¬ (120 : Int) < (ps.length : Int) := by omega
  have hlen : ps.length ≤ 120 := by omega
  clear h120
  go_enter Tryz.func8, Tryz.ntmps8
  go_wp2
  go_loopw [3, 4] (fun v3 v4 wr => ∃ (j : Nat) (n : Int), j ≤ ps.length ∧ v4 = .int .i64 (j : Nat) ∧ v3 = .int .i64 n ∧ 0 ≤ n ∧ n ≤ 40000000 * (j : Int) ∧ Hid (∀ i o, i < j → ps[i]? = some o → min (o.p.length : Int) 99999 ≤ n ∧ min (o.s.size : Int) 99999 ≤ n ∧ min (o.t.size : Int) 99999 ≤ n) ∧ Hid (Below w.heap.size w wr))
    (fun _ v4 _ => ps.length - (intOf v4).toNat)
  case atStart => exact ⟨0, 0, Nat.zero_le _, rfl, rfl, by omega, by omega, hide (fun i o h => by omega), hide (Below.refl _ _)⟩
  case round =>
    obtain ⟨j, n, hj, rfl, rfl, hn0, hn1, HA, HB⟩ := hrel
    by_cases hlt : j < ps.length
    · obtain ⟨x, hx⟩ : ∃ q, ps[j]? = some q := ⟨_, List.getElem?_eq_getElem hlt⟩
      obtain ⟨ab, aoff, pa, pc, rfl, hp, c0, c1, c2, c3, c4, c5⟩ := (hr.below HB.out) j x hx
      have HX := hide hx
      have HRP := hide hp
      clear hx c1 c3 c4
      obtain ⟨xp, xk, xs, xd, xn, xt⟩ := x
      dsimp only at c0 c2 c5 hp
      obtain ⟨N, hN⟩ : ∃ q, q = xp.length := ⟨_, rfl⟩
      rw [← hN] at c0
      have HN := hide hN
      clear hN hp
      have hb7 : ∀ j' : Nat, j' ≤ 120 → n ≤ 40000000 * (j' : Int) → n ≤ 4800000000 := fun j' h1 h2 => by omega
      have hnb := hb7 j (by omega) hn1
      clear hb7
      obtain ⟨m1, hm1⟩ : ∃ q, q = min (xs.size : Int) 99999 := ⟨_, rfl⟩
      obtain ⟨m2, hm2⟩ : ∃ q, q = min (xt.size : Int) 99999 := ⟨_, rfl⟩
      obtain ⟨m3, hm3⟩ : ∃ q, q = min (N : Int) 99999 := ⟨_, rfl⟩
      have b1 : 0 ≤ m1 ∧ m1 ≤ 99999 ∧ min (xs.size : Int) 99999 ≤ m1 := by rw [hm1]; omega
      have b2 : 0 ≤ m2 ∧ m2 ≤ 99999 ∧ min (xt.size : Int) 99999 ≤ m2 := by rw [hm2]; omega
      have b3 : 0 ≤ m3 ∧ m3 ≤ 99999 ∧ min (N : Int) 99999 ≤ m3 := by rw [hm3]; omega
      have e1 := hm1.symm
      have e2 := hm2.symm
      have e3 := hm3.symm
      have u1 : IntKind.i64.wrap (n + m1) = n + m1 := by rw [IntKind.wrap_i64]; omega
      have u2 : IntKind.i64.wrap (n + m1 + m2) = n + m1 + m2 := by rw [IntKind.wrap_i64]; omega
      have u3 : IntKind.i64.wrap (n + m1 + m2 + m3) = n + m1 + m2 + m3 := by rw [IntKind.wrap_i64]; omega
      have HBB := hide (And.intro b1 (And.intro b2 (And.intro b3 (And.intro hn0 (And.intro hn1 hnb)))))
      clear hm1 hm2 hm3 b1 b2 b3 hn0 hn1 hnb
      go_upto_region 7 with fail
      refine wp_region_held_drew (S := fun w' => w'.cell? ⟨ab, aoff + j * 6, none⟩ = some (.slice pa N pc) ∧ w'.cell? ⟨ab, aoff + j * 6 + 2, none⟩ = some (.string xs) ∧ w'.cell? ⟨ab, aoff + j * 6 + 5, none⟩ = some (.string xt)) (by kernel_rfl) ⟨c0, c2, c5⟩ (fun hHeld => ?_)
      refine take_op (i := 0) (d := 15) (OP := Op.move (Operand.tmp 3)) (T := 3) (v := ?vog1) rfl rfl rfl rfl (by kernel_rfl) (by kernel_rfl) (by kernel_rfl) (fun _ _ _ h => h) (by rfl) ?hog1 hHeld ?rog1
      case hog1 => (intro w' hSw; (try dsimp only at hSw); go_simp <;> with_reducible rfl)
      try simp only [Act.put, List.setIfInBounds_toArray, List.set_cons_zero, List.set_cons_succ]
      refine take_op (i := 1) (d := 16) (OP := Op.move (Operand.tmp 0)) (T := 22) (v := ?vog2) rfl rfl rfl rfl (by kernel_rfl) (by kernel_rfl) (by kernel_rfl) (fun _ _ _ h => h) (by rfl) ?hog2 hHeld ?rog2
      case hog2 => (intro w' hSw; (try dsimp only at hSw); go_simp <;> with_reducible rfl)
      try simp only [Act.put, List.setIfInBounds_toArray, List.set_cons_zero, List.set_cons_succ]
      refine take_op (i := 2) (d := 17) (OP := Op.move (Operand.tmp 4)) (T := 3) (v := ?vog3) rfl rfl rfl rfl (by kernel_rfl) (by kernel_rfl) (by kernel_rfl) (fun _ _ _ h => h) (by rfl) ?hog3 hHeld ?rog3
      case hog3 => (intro w' hSw; (try dsimp only at hSw); go_simp <;> with_reducible rfl)
      try simp only [Act.put, List.setIfInBounds_toArray, List.set_cons_zero, List.set_cons_succ]
      refine take_op (i := 3) (d := 18) (OP := Op.indexAddr 22 (Operand.tmp 16) (Operand.tmp 17)) (T := 0) (v := ?vog4) rfl rfl rfl rfl (by kernel_rfl) (by kernel_rfl) (by kernel_rfl) (fun _ _ _ h => h) (by rfl) ?hog4 hHeld ?rog4
      case hog4 => (intro w' hSw; (try dsimp only at hSw); go_simp <;> with_reducible rfl)
      try simp only [Act.put, List.setIfInBounds_toArray, List.set_cons_zero, List.set_cons_succ]
      refine take_op (i := 4) (d := 19) (OP := Op.fieldAddr 34 (Operand.tmp 18) 2) (T := 0) (v := ?vog5) rfl rfl rfl rfl (by kernel_rfl) (by kernel_rfl) (by kernel_rfl) (fun _ _ _ h => h) (by rfl) ?hog5 hHeld ?rog5
      case hog5 => (intro w' hSw; (try dsimp only at hSw); go_simp <;> with_reducible rfl)
      try simp only [Act.put, List.setIfInBounds_toArray, List.set_cons_zero, List.set_cons_succ]
      refine take_op (i := 5) (d := 20) (OP := Op.load 9 (Operand.tmp 19)) (T := 9) (v := ?vog6) rfl rfl rfl rfl (by kernel_rfl) (by kernel_rfl) (by kernel_rfl) (fun _ _ _ h => h) (by rfl) ?hog6 hHeld ?rog6
      case hog6 => (intro w' hSw; (try dsimp only at hSw); go_simp <;> with_reducible rfl)
      try simp only [Act.put, List.setIfInBounds_toArray, List.set_cons_zero, List.set_cons_succ]
      refine take_op (i := 6) (d := 21) (OP := Op.call { callee := Callee.builtin Builtin.len, args := #[Operand.tmp 20], argTypes := #[9] }) (T := 3) (v := ?vog7) rfl rfl rfl rfl (by kernel_rfl) (by kernel_rfl) (by kernel_rfl) (fun _ _ _ h => h) (by rfl) ?hog7 hHeld ?rog7
      case hog7 => (intro w' hSw; (try dsimp only at hSw); go_simp <;> with_reducible rfl)
      try simp only [Act.put, List.setIfInBounds_toArray, List.set_cons_zero, List.set_cons_succ]
      refine take_op (i := 7) (d := 22) (OP := Op.call { callee := Callee.builtin Builtin.min, args := #[Operand.tmp 21, Operand.const (Value.int IntKind.i64 99999)], argTypes := #[3, 3] }) (T := 3) (v := ?vog8) rfl rfl rfl rfl (by kernel_rfl) (by kernel_rfl) (by kernel_rfl) (fun _ _ _ h => h) (by rfl) ?hog8 hHeld ?rog8
      case hog8 => (intro w' hSw; (try dsimp only at hSw); go_simp <;> with_reducible rfl)
      try simp only [Act.put, List.setIfInBounds_toArray, List.set_cons_zero, List.set_cons_succ]
      refine take_op (i := 8) (d := 23) (OP := Op.binOp BinOp.add 3 (Operand.tmp 15) (Operand.tmp 22) 3) (T := 3) (v := ?vog9) rfl rfl rfl rfl (by kernel_rfl) (by kernel_rfl) (by kernel_rfl) (fun _ _ _ h => h) (by rfl) ?hog9 hHeld ?rog9
      case hog9 => (intro w' hSw; (try dsimp only at hSw); go_simp <;> with_reducible rfl)
      try simp only [Act.put, List.setIfInBounds_toArray, List.set_cons_zero, List.set_cons_succ]
      refine take_op (i := 9) (d := 24) (OP := Op.move (Operand.tmp 0)) (T := 22) (v := ?vog10) rfl rfl rfl rfl (by kernel_rfl) (by kernel_rfl) (by kernel_rfl) (fun _ _ _ h => h) (by rfl) ?hog10 hHeld ?rog10
      case hog10 => (intro w' hSw; (try dsimp only at hSw); go_simp <;> with_reducible rfl)
      try simp only [Act.put, List.setIfInBounds_toArray, List.set_cons_zero, List.set_cons_succ]
      refine take_op (i := 10) (d := 25) (OP := Op.move (Operand.tmp 4)) (T := 3) (v := ?vog11) rfl rfl rfl rfl (by kernel_rfl) (by kernel_rfl) (by kernel_rfl) (fun _ _ _ h => h) (by rfl) ?hog11 hHeld ?rog11
      case hog11 => (intro w' hSw; (try dsimp only at hSw); go_simp <;> with_reducible rfl)
      try simp only [Act.put, List.setIfInBounds_toArray, List.set_cons_zero, List.set_cons_succ]
      refine take_op (i := 11) (d := 26) (OP := Op.indexAddr 22 (Operand.tmp 24) (Operand.tmp 25)) (T := 0) (v := ?vog12) rfl rfl rfl rfl (by kernel_rfl) (by kernel_rfl) (by kernel_rfl) (fun _ _ _ h => h) (by rfl) ?hog12 hHeld ?rog12
      case hog12 => (intro w' hSw; (try dsimp only at hSw); go_simp <;> with_reducible rfl)
      try simp only [Act.put, List.setIfInBounds_toArray, List.set_cons_zero, List.set_cons_succ]
      refine take_op (i := 12) (d := 27) (OP := Op.fieldAddr 34 (Operand.tmp 26) 5) (T := 0) (v := ?vog13) rfl rfl rfl rfl (by kernel_rfl) (by kernel_rfl) (by kernel_rfl) (fun _ _ _ h => h) (by rfl) ?hog13 hHeld ?rog13
      case hog13 => (intro w' hSw; (try dsimp only at hSw); go_simp <;> with_reducible rfl)
      try simp only [Act.put, List.setIfInBounds_toArray, List.set_cons_zero, List.set_cons_succ]
      refine take_op (i := 13) (d := 28) (OP := Op.load 9 (Operand.tmp 27)) (T := 9) (v := ?vog14) rfl rfl rfl rfl (by kernel_rfl) (by kernel_rfl) (by kernel_rfl) (fun _ _ _ h => h) (by rfl) ?hog14 hHeld ?rog14
      case hog14 => (intro w' hSw; (try dsimp only at hSw); go_simp <;> with_reducible rfl)
      try simp only [Act.put, List.setIfInBounds_toArray, List.set_cons_zero, List.set_cons_succ]
      refine take_op (i := 14) (d := 29) (OP := Op.call { callee := Callee.builtin Builtin.len, args := #[Operand.tmp 28], argTypes := #[9] }) (T := 3) (v := ?vog15) rfl rfl rfl rfl (by kernel_rfl) (by kernel_rfl) (by kernel_rfl) (fun _ _ _ h => h) (by rfl) ?hog15 hHeld ?rog15
      case hog15 => (intro w' hSw; (try dsimp only at hSw); go_simp <;> with_reducible rfl)
      try simp only [Act.put, List.setIfInBounds_toArray, List.set_cons_zero, List.set_cons_succ]
      refine take_op (i := 15) (d := 30) (OP := Op.call { callee := Callee.builtin Builtin.min, args := #[Operand.tmp 29, Operand.const (Value.int IntKind.i64 99999)], argTypes := #[3, 3] }) (T := 3) (v := ?vog16) rfl rfl rfl rfl (by kernel_rfl) (by kernel_rfl) (by kernel_rfl) (fun _ _ _ h => h) (by rfl) ?hog16 hHeld ?rog16
      case hog16 => (intro w' hSw; (try dsimp only at hSw); go_simp <;> with_reducible rfl)
      try simp only [Act.put, List.setIfInBounds_toArray, List.set_cons_zero, List.set_cons_succ]
      refine take_op (i := 16) (d := 31) (OP := Op.binOp BinOp.add 3 (Operand.tmp 23) (Operand.tmp 30) 3) (T := 3) (v := ?vog17) rfl rfl rfl rfl (by kernel_rfl) (by kernel_rfl) (by kernel_rfl) (fun _ _ _ h => h) (by rfl) ?hog17 hHeld ?rog17
      case hog17 => (intro w' hSw; (try dsimp only at hSw); go_simp <;> with_reducible rfl)
      try simp only [Act.put, List.setIfInBounds_toArray, List.set_cons_zero, List.set_cons_succ]
      refine take_op (i := 17) (d := 32) (OP := Op.move (Operand.tmp 0)) (T := 22) (v := ?vog18) rfl rfl rfl rfl (by kernel_rfl) (by kernel_rfl) (by kernel_rfl) (fun _ _ _ h => h) (by rfl) ?hog18 hHeld ?rog18
      case hog18 => (intro w' hSw; (try dsimp only at hSw); go_simp <;> with_reducible rfl)
      try simp only [Act.put, List.setIfInBounds_toArray, List.set_cons_zero, List.set_cons_succ]
      refine take_op (i := 18) (d := 33) (OP := Op.move (Operand.tmp 4)) (T := 3) (v := ?vog19) rfl rfl rfl rfl (by kernel_rfl) (by kernel_rfl) (by kernel_rfl) (fun _ _ _ h => h) (by rfl) ?hog19 hHeld ?rog19
      case hog19 => (intro w' hSw; (try dsimp only at hSw); go_simp <;> with_reducible rfl)
      try simp only [Act.put, List.setIfInBounds_toArray, List.set_cons_zero, List.set_cons_succ]
      refine take_op (i := 19) (d := 34) (OP := Op.indexAddr 22 (Operand.tmp 32) (Operand.tmp 33)) (T := 0) (v := ?vog20) rfl rfl rfl rfl (by kernel_rfl) (by kernel_rfl) (by kernel_rfl) (fun _ _ _ h => h) (by rfl) ?hog20 hHeld ?rog20
      case hog20 => (intro w' hSw; (try dsimp only at hSw); go_simp <;> with_reducible rfl)
      try simp only [Act.put, List.setIfInBounds_toArray, List.set_cons_zero, List.set_cons_succ]
      refine take_op (i := 20) (d := 35) (OP := Op.fieldAddr 34 (Operand.tmp 34) 0) (T := 0) (v := ?vog21) rfl rfl rfl rfl (by kernel_rfl) (by kernel_rfl) (by kernel_rfl) (fun _ _ _ h => h) (by rfl) ?hog21 hHeld ?rog21
      case hog21 => (intro w' hSw; (try dsimp only at hSw); go_simp <;> with_reducible rfl)
      try simp only [Act.put, List.setIfInBounds_toArray, List.set_cons_zero, List.set_cons_succ]
      refine take_op (i := 21) (d := 36) (OP := Op.load 30 (Operand.tmp 35)) (T := 30) (v := ?vog22) rfl rfl rfl rfl (by kernel_rfl) (by kernel_rfl) (by kernel_rfl) (fun _ _ _ h => h) (by rfl) ?hog22 hHeld ?rog22
      case hog22 => (intro w' hSw; (try dsimp only at hSw); go_simp <;> with_reducible rfl)
      try simp only [Act.put, List.setIfInBounds_toArray, List.set_cons_zero, List.set_cons_succ]
      refine take_op (i := 22) (d := 37) (OP := Op.call { callee := Callee.builtin Builtin.len, args := #[Operand.tmp 36], argTypes := #[30] }) (T := 3) (v := ?vog23) rfl rfl rfl rfl (by kernel_rfl) (by kernel_rfl) (by kernel_rfl) (fun _ _ _ h => h) (by rfl) ?hog23 hHeld ?rog23
      case hog23 => (intro w' hSw; (try dsimp only at hSw); go_simp <;> with_reducible rfl)
      try simp only [Act.put, List.setIfInBounds_toArray, List.set_cons_zero, List.set_cons_succ]
      refine take_op (i := 23) (d := 38) (OP := Op.call { callee := Callee.builtin Builtin.min, args := #[Operand.tmp 37, Operand.const (Value.int IntKind.i64 99999)], argTypes := #[3, 3] }) (T := 3) (v := ?vog24) rfl rfl rfl rfl (by kernel_rfl) (by kernel_rfl) (by kernel_rfl) (fun _ _ _ h => h) (by rfl) ?hog24 hHeld ?rog24
      case hog24 => (intro w' hSw; (try dsimp only at hSw); go_simp <;> with_reducible rfl)
      try simp only [Act.put, List.setIfInBounds_toArray, List.set_cons_zero, List.set_cons_succ]
      refine take_op (i := 24) (d := 39) (OP := Op.binOp BinOp.add 3 (Operand.tmp 31) (Operand.tmp 38) 3) (T := 3) (v := ?vog25) rfl rfl rfl rfl (by kernel_rfl) (by kernel_rfl) (by kernel_rfl) (fun _ _ _ h => h) (by rfl) ?hog25 hHeld ?rog25
      case hog25 => (intro w' hSw; (try dsimp only at hSw); go_simp <;> with_reducible rfl)
      try simp only [Act.put, List.setIfInBounds_toArray, List.set_cons_zero, List.set_cons_succ]
      refine take_op (i := 25) (d := 3) (OP := Op.assign (Operand.tmp 39)) (T := 3) (v := ?vog26) rfl rfl rfl rfl (by kernel_rfl) (by kernel_rfl) (by kernel_rfl) (fun _ _ _ h => h) (by rfl) ?hog26 hHeld ?rog26
      case hog26 => (intro w' hSw; (try dsimp only at hSw); go_simp <;> with_reducible rfl)
      try simp only [Act.put, List.setIfInBounds_toArray, List.set_cons_zero, List.set_cons_succ]
      refine wpAnyH_done (by kernel_rfl) ?_ _
      clear hHeld e1 e2 e3 u1 u2 u3
      obtain ⟨n4, hn4⟩ : ∃ q, q = n + m1 + m2 + m3 := ⟨_, rfl⟩
      rw [← hn4]
      have HN4 := hide hn4
      clear hn4
      obtain ⟨w1, hw1⟩ : ∃ q, q = wr.drew := ⟨_, rfl⟩
      rw [← hw1]
      have d1 : Below wr.heap.size wr w1 := by rw [hw1]; exact (Below.refl _ _).drew
      have C1 := hide (And.intro (Ki.cell_stays c0 d1) (And.intro d1 (HRP.out.below d1)))
      clear hw1 d1 c0 c2 c5 HRP
      go_wp2
      go_loopw [3, 5] (fun v3 v5 wq => ∃ (k : Nat) (n' : Int), k ≤ N ∧ k ≤ 300 ∧ v5 = .int .i64 (k : Nat) ∧ v3 = .int .i64 n' ∧ Hid (n4 ≤ n' ∧ n' ≤ n4 + 99999 * (k : Int)) ∧ Hid (Below w1.heap.size w1 wq))
        (fun _ v5 _ => 300 - (intOf v5).toNat)
      case atStart => exact ⟨0, n4, by omega, by omega, rfl, rfl, hide ⟨by omega, by omega⟩, hide (Below.refl _ _)⟩
      case round =>
        obtain ⟨k, n', hk, hk3, rfl, rfl, HK, HQ⟩ := hrel
        have c0 := Ki.cell_stays C1.out.1 HQ.out
        by_cases hk1 : k < N
        · by_cases hk2 : k < 300
          · obtain ⟨y, hy⟩ : ∃ q, xp[k]? = some q := ⟨_, List.getElem?_eq_getElem (by have := HN.out; omega)⟩
            obtain ⟨pb, poff, rfl, p0⟩ := (C1.out.2.2.below HQ.out).rs.at hy
            have z1 : (k : Int) < (N : Int) := by omega
            have z2 : (k : Int) < 300 := by omega
            obtain ⟨m5, hm5⟩ : ∃ q, q = min (y.size : Int) 99999 := ⟨_, rfl⟩
            have b5 : 0 ≤ m5 ∧ m5 ≤ 99999 := by rw [hm5]; omega
            have e5 := hm5.symm
            have u5 : IntKind.i64.wrap (n' + m5) = n' + m5 := by
              have h1 := HK.out
              have h2 := HN4.out
              have h3 := HBB.out
              rw [IntKind.wrap_i64]; omega
            have B5 := hide b5
            clear hy hm5 b5
            go_wp2
            go_roundw
            case rel => exact ⟨k + 1, n' + m5, by omega, by omega, by go_num, rfl, hide ⟨by have := HK.out; have := B5.out; omega, by have := HK.out; have := B5.out; push_cast; omega⟩, HQ⟩
            case measure => simp [intOf]; omega
          · have z1 : (k : Int) < (N : Int) := by omega
            have z2 : ¬ (k : Int) < 300 := by omega
            have hfin : n4 ≤ n' ∧ n' ≤ n4 + 99999 * 300 := ⟨HK.out.1, by have := HK.out.2; omega⟩
            have HF := hide hfin
            clear hfin
            go_wp2
            go_roundw
            case rel => exact ⟨j + 1, n', by omega, by go_num, rfl, by have := HF.out; have := HN4.out; have := HBB.out; omega, by have := HF.out; have := HN4.out; have := HBB.out; push_cast; omega, hide (fun i o hi ho => by
              have h1 := HF.out
              have h2 := HN4.out
              have h3 := HBB.out
              by_cases hij : i < j
              · have := HA.out i o hij ho; omega
              · have : i = j := by omega
                subst this
                rw [HX.out] at ho
                cases ho
                have := HN.out
                dsimp only
                omega), hide (HB.out.trans ((C1.out.2.1.trans (HQ.out.mono C1.out.2.1.size)).mono HB.out.size))⟩
            case measure => simp [intOf]; omega
        · have z1 : ¬ (k : Int) < (N : Int) := by omega
          have hfin : n4 ≤ n' ∧ n' ≤ n4 + 99999 * 300 := ⟨HK.out.1, by have := HK.out.2; omega⟩
          have HF := hide hfin
          clear hfin
          go_wp2
          go_roundw
          case rel => exact ⟨j + 1, n', by omega, by go_num, rfl, by have := HF.out; have := HN4.out; have := HBB.out; omega, by have := HF.out; have := HN4.out; have := HBB.out; push_cast; omega, hide (fun i o hi ho => by
              have h1 := HF.out
              have h2 := HN4.out
              have h3 := HBB.out
              by_cases hij : i < j
              · have := HA.out i o hij ho; omega
              · have : i = j := by omega
                subst this
                rw [HX.out] at ho
                cases ho
                have := HN.out
                dsimp only
                omega), hide (HB.out.trans ((C1.out.2.1.trans (HQ.out.mono C1.out.2.1.size)).mono HB.out.size))⟩
          case measure => simp [intOf]; omega
    · have hall : ∀ o ∈ ps, min (o.p.length : Int) 99999 ≤ n ∧ min (o.s.size : Int) 99999 ≤ n ∧ min (o.t.size : Int) 99999 ≤ n := fun o ho => by
        obtain ⟨i, hi, he⟩ := List.getElem_of_mem ho
        exact HA.out i o (by omega) (by rw [List.getElem?_eq_getElem hi, he])
      have HALL := hide hall
      clear hall
      by_cases hs : n < 60000
      · go_wp2
        go_ret
        unfold SmallP
        exact ⟨true, rfl, fun _ => ⟨hlen, fun o ho => by have := (HALL.out o ho).1; omega, fun o ho => by have := (HALL.out o ho).2.1; omega, fun o ho => by have := (HALL.out o ho).2.2; omega⟩, HB.out⟩
      · go_wp2
        go_ret
        unfold SmallP
        exact ⟨false, rfl, by simp, HB.out⟩
end Go.Proofs.YtpepgoelnagoaaaGreatDoor
namespace Go.Proofs.YtpepgoelnagoaaaGreatDoor
open Go.RowKit Go.Shelf
set_option linter.unusedSimpArgs false
set_option linter.unusedVariables false
attribute [local go_sem] Oper.semAt_some

theorem SmallL.plen {l : List Od} (h : SmallL l) : ∀ o ∈ l, o.p.length ≤ 1000000 := fun o ho => by have := h.path o ho; omega

end Go.Proofs.YtpepgoelnagoaaaGreatDoor
