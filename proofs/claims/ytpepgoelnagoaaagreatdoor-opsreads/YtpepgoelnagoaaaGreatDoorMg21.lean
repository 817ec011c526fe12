/-
  OPS: the rows of the chapter that the law knows, plainly; add 43, pop 42, num 14.
  OPS: known 9.
  OPS: small 8.
  OPS: facts of OpsBack: forms and texts of lists that may be tell the lists, and no form begins another.
  OPS, forms: what is read has just the form that was read: numbers, texts, paths, an operation.
-/
import Derived.Test.YtpepgoelnagoaaaGreatDoorMg20
import Derived.Test.YtpepgoelnagoaaaGreatDoorMg17
import Derived.Test.YtpepgoelnagoaaaGreatDoorMg18
import Derived.Test.YtpepgoelnagoaaaGreatDoorMg11
import Derived.Test.YtpepgoelnagoaaaGreatDoorMg19
namespace Go.Proofs.YtpepgoelnagoaaaGreatDoor
open Go.RowKit Go.Shelf
set_option linter.unusedSimpArgs false
set_option linter.unusedVariables false
attribute [local go_sem] Oper.semAt_some
def addO : Od := ⟨[], 1, ⟨#[104, 105, 116, 115]⟩, 1, 3, ⟨#[]⟩⟩
def popO : Od := ⟨[⟨#[97]⟩, ⟨#[98]⟩], 4, ⟨#[113]⟩, 6, 0, ⟨#[]⟩⟩
theorem chk_add : chkO addO = 0 := by kernel_rfl
theorem chk_pop : chkO popO = 0 := by kernel_rfl
theorem fr_add : frO addO = [1, 0, 4, 104, 105, 116, 115, 6] := by
  simp [frO, frP, frB, frN, addO, Plain.numL_small, Plain.fold, ints, ByteArray.size]
theorem fr_pop : frO popO = [6, 2, 1, 97, 1, 98, 1, 113] := by
  simp [frO, frP, frB, frN, popO, Plain.numL_small, Plain.fold, ints, ByteArray.size]
def knS : ByteArray := ⟨#[97, 100, 100, 32, 47, 32, 104, 105, 116, 115, 32, 51, 59, 32, 112, 111, 112, 32, 47, 97, 47, 98, 32, 113]⟩
theorem kn_text : (⟨(txA [addO, popO]).toArray⟩ : ByteArray) = knS := by kernel_rfl
theorem kn_no : parseS ⟨#[97, 100, 100, 32, 47, 32, 104, 105, 116, 115, 32, 48, 51]⟩ = (odZ, 4) := by kernel_rfl
theorem kn_all : parseA knS = ([addO, popO], 0) := by kernel_rfl

set_option maxHeartbeats 1000000 in
set_option maxRecDepth 100000 in
theorem add43_any (w : World) : Calls Tryz.prog 43 #[] w fun e w' => e = .returned (odv none 0 0 addO) ∧ Below w.heap.size w w' := by
  go_enter Tryz.func43, Tryz.ntmps43
  go_wp2
  exact ret_row w.heap.size (oc6 (.slice none 0 0) 1 ⟨#[104, 105, 116, 115]⟩ 1 3 ⟨#[]⟩).toList rfl rfl Tryz.underlying34 rfl Tryz.info34z (heap_alloc_new w _) rfl ⟨rfl, (Below.refl _ w).alloc (Nat.le_refl _) _⟩
set_option maxHeartbeats 1000000 in
set_option maxRecDepth 100000 in
theorem pop42_any (w : World) : Calls Tryz.prog 42 #[] w fun e w' => ∃ pa, e = .returned (odv pa 2 2 popO) ∧ Ki.Rp w' pa 2 popO.p ∧ Below w.heap.size w w' := by
  obtain ⟨w1, hw1⟩ : ∃ q, q = (w.alloc (.cells (oc6 (.slice (some ⟨w.heap.size + 1, 0, none⟩) 2 2) 4 ⟨#[113]⟩ 6 0 ⟨#[]⟩) 34)).alloc (.cells #[.string ⟨#[97]⟩, .string ⟨#[98]⟩] 9) := ⟨_, rfl⟩
  obtain ⟨m1, m2⟩ := new2 w (.cells (oc6 (.slice (some ⟨w.heap.size + 1, 0, none⟩) 2 2) 4 ⟨#[113]⟩ 6 0 ⟨#[]⟩) 34) (.cells #[.string ⟨#[97]⟩, .string ⟨#[98]⟩] 9)
  have d : Below w.heap.size w w1 := by rw [hw1]; exact ((Below.refl _ w).alloc (Nat.le_refl _) _).alloc (by simp) _
  rw [← hw1] at m1 m2
  have hrp : Ki.Rp w1 (some ⟨w.heap.size + 1, 0, none⟩) 2 popO.p := by
    refine ⟨⟨by simp, ?_⟩, by decide, by simp, by decide⟩
    intro a ha j s hj
    cases ha
    match j, hj with
    | 0, hj => cases hj; exact (cell_of_row _ _ 0 _ 9 (0, 0) m2).trans rfl
    | 1, hj => cases hj; exact (cell_of_row _ _ 1 _ 9 (0, 0) m2).trans rfl
  go_enter Tryz.func42, Tryz.ntmps42
  go_wp2
  rw [← hw1]
  exact ret_row w.heap.size (oc6 (.slice (some ⟨w.heap.size + 1, 0, none⟩) 2 2) 4 ⟨#[113]⟩ 6 0 ⟨#[]⟩).toList rfl rfl Tryz.underlying34 rfl Tryz.info34z m1 rfl ⟨_, rfl, hrp, d⟩
theorem num14_any (n : Int) (w : World) : Calls Tryz.prog 14 #[.int .i64 n] w fun e w' => e = .returned (.int .i64 n) ∧ w' = w := by
  go_enter Tryz.func14, Tryz.ntmps14
  go_wp2
  go_ret
  exact ⟨rfl, rfl⟩
end Go.Proofs.YtpepgoelnagoaaaGreatDoor
namespace Go.Proofs.YtpepgoelnagoaaaGreatDoor
open Go.RowKit Go.Shelf
set_option linter.unusedSimpArgs false
set_option linter.unusedVariables false
attribute [local go_sem] Oper.semAt_some

abbrev addV : Value := .agg #[.slice none 0 0, .int .i64 1, .string ⟨#[104, 105, 116, 115]⟩, .int .i64 1, .int .i64 3, .string ⟨#[]⟩]
abbrev popV (pa : Option Addr) : Value := .agg #[.slice pa 2 2, .int .i64 4, .string ⟨#[113]⟩, .int .i64 6, .int .i64 0, .string ⟨#[]⟩]
theorem rp_nil (W : World) : Ki.Rp W none 0 addO.p := ⟨Rs.nil _ _, by decide, fun _ => rfl, by decide⟩
theorem i64_add : I64 addO.n := ⟨by decide, by decide⟩
theorem i64_pop : I64 popO.n := ⟨by decide, by decide⟩
theorem kn_a (W : World) (hT : Tabs W) : Calls Tryz.prog 11 #[addV] W fun e w' => ∃ a c, e = .returned (.tuple #[.slice a 8 c, .int .i64 0]) ∧ Rd w' a [1, 0, 4, 104, 105, 116, 115, 6] ∧ Below W.heap.size W w' := by
  have h := bytesO_any (pc := 0) addO (rp_nil W) i64_add hT
  have he : frE addO = [1, 0, 4, 104, 105, 116, 115, 6] := by unfold frE; rw [if_pos chk_add, fr_add]
  rw [he, chk_add] at h
  refine Calls.mono (show Calls Tryz.prog 11 #[addV] W _ from h) ?_
  rintro e w' ⟨a, c, rfl, ho, -, hb⟩
  exact ⟨a, c, rfl, ho.rd, hb⟩
theorem kn_p (W : World) (pa : Option Addr) (hp : Ki.Rp W pa 2 popO.p) (hT : Tabs W) : Calls Tryz.prog 11 #[popV pa] W fun e w' => ∃ a c, e = .returned (.tuple #[.slice a 8 c, .int .i64 0]) ∧ Rd w' a [6, 2, 1, 97, 1, 98, 1, 113] ∧ Below W.heap.size W w' := by
  have h := bytesO_any (pc := 2) popO hp i64_pop hT
  have he : frE popO = [6, 2, 1, 97, 1, 98, 1, 113] := by unfold frE; rw [if_pos chk_pop, fr_pop]
  rw [he, chk_pop] at h
  refine Calls.mono (show Calls Tryz.prog 11 #[popV pa] W _ from h) ?_
  rintro e w' ⟨a, c, rfl, ho, -, hb⟩
  exact ⟨a, c, rfl, ho.rd, hb⟩
theorem wrong_two : wrongL [addO, popO] = 0 := by kernel_rfl
theorem i64_two : ∀ o ∈ [addO, popO], I64 o.n := by
  intro o ho
  simp only [List.mem_cons, List.not_mem_nil, or_false] at ho
  rcases ho with rfl | rfl
  · exact i64_add
  · exact i64_pop
/-- The two of the chapter, in a row. -/
abbrev twoC (pa : Option Addr) : Array Value := #[.slice none 0 0, .int .i64 1, .string ⟨#[104, 105, 116, 115]⟩, .int .i64 1, .int .i64 3, .string ⟨#[]⟩, .slice pa 2 2, .int .i64 4, .string ⟨#[113]⟩, .int .i64 6, .int .i64 0, .string ⟨#[]⟩]
theorem rq_two {W : World} {b : Nat} {pa : Option Addr} (h : W.heap[b]? = some (.cells (twoC pa) 34 (0, 0))) (hp : Ki.Rp W pa 2 popO.p) : Rq W (some ⟨b, 0, none⟩) [addO, popO] := by
  intro i o ho
  have c := fun k v (hv : (twoC pa)[k]? = some v) => (cell_of_row _ _ k _ 34 (0, 0) h).trans hv
  match i, ho with
  | 0, ho => cases ho; exact ⟨b, 0, none, 0, rfl, rp_nil W, c 0 _ rfl, c 1 _ rfl, c 2 _ rfl, c 3 _ rfl, c 4 _ rfl, c 5 _ rfl⟩
  | 1, ho => cases ho; exact ⟨b, 0, pa, 2, rfl, hp, c 6 _ rfl, c 7 _ rfl, c 8 _ rfl, c 9 _ rfl, c 10 _ rfl, c 11 _ rfl⟩
theorem kn_t2 (W : World) (ao : Option Addr) (c : Nat) (hr : Rq W ao [addO, popO]) (hE : EnvO W) : Calls Tryz.prog 18 #[.slice ao 2 c] W fun e w' => e = .returned (.tuple #[.string knS, .int .i64 0]) ∧ Below W.heap.size W w' := by
  have h := textAllP_any (c := c) [addO, popO] hr i64_two hE (by decide)
  have he : txW' [addO, popO] = knS := by unfold txW'; rw [if_pos wrong_two, kn_text]
  rw [he, wrong_two] at h
  exact h
theorem kn_t0 (W : World) (hE : EnvO W) : Calls Tryz.prog 18 #[.slice none 0 0] W fun e w' => e = .returned (.tuple #[.string ⟨#[46]⟩, .int .i64 0]) ∧ Below W.heap.size W w' := by
  have h := textAllP_any (c := 0) [] (Rq.nil W none) (by simp) hE (by decide)
  have hw : wrongL [] = 0 := by kernel_rfl
  have he : txW' [] = ⟨#[46]⟩ := by unfold txW'; rw [if_pos hw]; rfl
  rw [he, hw] at h
  exact h
theorem kn_n (W : World) (hE : EnvO W) : Calls Tryz.prog 34 #[.string ⟨#[97, 100, 100, 32, 47, 32, 104, 105, 116, 115, 32, 48, 51]⟩] W fun e w' => ∃ pa pc, e = .returned (.tuple #[.agg #[.slice pa 0 pc, .int .i64 0, .string ⟨#[]⟩, .int .i64 0, .int .i64 0, .string ⟨#[]⟩], .int .i64 4]) ∧ Below W.heap.size W w' := by
  have h := parse34_any ⟨#[97, 100, 100, 32, 47, 32, 104, 105, 116, 115, 32, 48, 51]⟩ W (by decide) hE (.inl (by kernel_rfl))
  rw [kn_no] at h
  refine h.mono ?_
  rintro e w' ⟨pa, pc, rfl, -, hb⟩
  exact ⟨pa, pc, rfl, hb⟩
theorem kn_pieces : piecesA knS = [⟨#[97, 100, 100, 32, 47, 32, 104, 105, 116, 115, 32, 51]⟩, ⟨#[112, 111, 112, 32, 47, 97, 47, 98, 32, 113]⟩] := by kernel_rfl
theorem kn_l (W : World) (hE : EnvO W) : Calls Tryz.prog 36 #[.string knS] W fun e w' => ∃ a c, e = .returned (.tuple #[.slice a 2 c, .int .i64 0]) ∧ Rq w' a [addO, popO] ∧ Below W.heap.size W w' := by
  have h := parseAll36_any knS W (by decide) hE (.inl (by rw [kn_pieces]; intro x hx; simp only [List.mem_cons, List.not_mem_nil, or_false] at hx; rcases hx with rfl | rfl <;> kernel_rfl))
  rw [kn_all] at h
  refine h.mono ?_
  rintro e w' ⟨v, rfl, xs, hx, ho, hb⟩
  obtain ⟨a, c, hv, hr, -, -, -⟩ := ho.shape
  have hl : xs.length = 2 := by have := congrArg List.length hx; simpa using this
  rw [hl] at hv
  rw [hx] at hr
  subst hv
  exact ⟨a, c, rfl, hr, hb⟩
theorem kn_s1 (W : World) (pa qa : Option Addr) (h : Ki.Rp W pa 2 popO.p) (k : Ki.Rp W qa 2 popO.p) : Calls Tryz.prog 41 #[.agg #[.slice pa 2 2, .int .i64 5, .string ⟨#[113]⟩, .int .i64 6, .int .i64 0, .string ⟨#[]⟩], popV qa] W fun e w' => e = .returned (.bool false) ∧ Below W.heap.size W w' := by
  have := same41_any (pc := 2) (qc := 2) ⟨popO.p, 5, popO.s, popO.d, popO.n, popO.t⟩ popO h.rs k.rs (by decide) (by decide)
  have he : sameO ⟨popO.p, 5, popO.s, popO.d, popO.n, popO.t⟩ popO = false := by kernel_rfl
  rw [he] at this
  exact this
theorem kn_s2 (W : World) (pa qa : Option Addr) (h : Ki.Rp W pa 2 popO.p) (k : Ki.Rp W qa 2 popO.p) : Calls Tryz.prog 41 #[popV pa, popV qa] W fun e w' => e = .returned (.bool true) ∧ Below W.heap.size W w' := by
  have := same41_any (pc := 2) (qc := 2) popO popO h.rs k.rs (by decide) (by decide)
  rw [(sameO_iff popO popO).2 rfl] at this
  exact this
theorem kn_q (W : World) (a b : Option Addr) (c d : Nat) (h : Rq W a [addO, popO]) (k : Rq W b [addO, popO]) : Calls Tryz.prog 20 #[.slice a 2 c, .slice b 2 d] W fun e w' => e = .returned (.bool true) ∧ Below W.heap.size W w' := by
  have hp : ∀ o ∈ [addO, popO], o.p.length ≤ 1000000 := by
    intro o ho
    simp only [List.mem_cons, List.not_mem_nil, or_false] at ho
    rcases ho with rfl | rfl <;> decide
  have := same20_any (c := c) (d := d) [addO, popO] [addO, popO] h k (by decide) hp hp
  rw [(sameL_iff _ _).2 rfl] at this
  exact this
theorem up {w a b : World} (h : Below w.heap.size w a) (k : Below a.heap.size a b) : Below w.heap.size w b := h.trans (k.mono h.size)

set_option maxHeartbeats 8000000 in
set_option maxRecDepth 100000 in
theorem known9_any {w : World} (hE : EnvO w) : Calls Tryz.prog 9 #[] w fun e w' => e = .returned (.bool true) ∧ Below w.heap.size w w' := by
  have kAdd : ∀ W, Calls Tryz.prog 43 #[] W fun e w' => e = .returned addV ∧ Below W.heap.size W w' := fun W => add43_any W
  have kPop : ∀ W, Calls Tryz.prog 42 #[] W fun e w' => ∃ pa, e = .returned (popV pa) ∧ Ki.Rp w' pa 2 popO.p ∧ Below W.heap.size W w' := fun W => pop42_any W
  have HE := hide hE
  clear hE
  have kA := fun W => kn_a W
  have kP := fun W => kn_p W
  have kS1 := fun W => kn_s1 W
  have kS2 := fun W => kn_s2 W
  have k14 := fun n W => num14_any n W
  go_enter Tryz.func9, Tryz.ntmps9
  go_upto_region 2 with (first
    | (go_at_call 11; refine (kA _ (HE.out.below D0.out).tabs).mono ?_; rintro e w1 ⟨a1, c1, rfl, r1, d1⟩; have D1 := hide (up D0.out d1); have R1 := hide r1; clear d1 r1 D0)
    | (go_at_call 43; refine (kAdd _).mono ?_; rintro e w0 ⟨rfl, d0⟩; have D0 := hide d0; clear d0))
  go_upto_region 3 with (first
    | (go_at_call 11; refine (kP _ pb HPb.out ((HE.out.below D1.out).below D2.out).tabs).mono ?_; rintro e w3 ⟨a3, c3, rfl, r3, d3⟩; have D3 := hide (up (up D1.out D2.out) d3); have R3 := hide (And.intro ((R1.out.below D2.out).below d3) r3); clear d3 r3 D1 D2 R1 HPb)
    | (go_at_call 42; refine (kPop _).mono ?_; rintro e w2 ⟨pb, rfl, rp, d2⟩; have D2 := hide d2; have HPb := hide rp; clear d2 rp))
  go_upto_region 4 with (first
    | (go_at_call 18; refine (kn_t2 _ _ 2 (rq_two (heap_alloc_new w5 (.cells (twoC pd) 34)) (HPd.out.below ((Below.refl _ w5).alloc (Nat.le_refl _) _))) (HE.out.below (up D5.out ((Below.refl _ w5).alloc (Nat.le_refl _) _)))).mono ?_; rintro e w6 ⟨rfl, d6⟩; have D6 := hide (up (up D5.out ((Below.refl _ w5).alloc (Nat.le_refl _) _)) d6); have R6 := hide (And.intro ((R5.out.1.below ((Below.refl _ w5).alloc (Nat.le_refl _) _)).below d6) ((R5.out.2.below ((Below.refl _ w5).alloc (Nat.le_refl _) _)).below d6)); clear d6 D5 R5 HPd)
    | (go_at_call 42; refine (kPop _).mono ?_; rintro e w5 ⟨pd, rfl, rp, d5⟩; have D5 := hide (up D4.out d5); have R5 := hide (And.intro (R4.out.1.below d5) (R4.out.2.below d5)); have HPd := hide rp; clear d5 rp D4 R4)
    | (go_at_call 43; refine (kAdd _).mono ?_; rintro e w4 ⟨rfl, d4⟩; have D4 := hide (up D3.out d4); have R4 := hide (And.intro (R3.out.1.below d4) (R3.out.2.below d4)); clear d4 D3 R3))
  go_upto_region 5 with (go_at_call 18; refine (kn_t0 _ (HE.out.below D6.out)).mono ?_; rintro e wa ⟨rfl, da⟩; have Da := hide (up D6.out da); have Ra := hide (And.intro (R6.out.1.below da) (R6.out.2.below da)); clear da D6 R6)
  go_upto_region 6 with (go_at_call 34; refine (kn_n _ (HE.out.below Da.out)).mono ?_; rintro e wb ⟨qb, cb, rfl, db⟩; have Db := hide (up Da.out db); have Rb := hide (And.intro (Ra.out.1.below db) (Ra.out.2.below db)); clear db Da Ra)
  obtain ⟨wc, hwc⟩ : ∃ q, q = wb.alloc (.cells #[.slice qb 0 cb, .int .i64 0, .string ⟨#[]⟩, .int .i64 0, .int .i64 0, .string ⟨#[]⟩] 34) := ⟨_, rfl⟩
  rw [← hwc]
  have dc : Below wb.heap.size wb wc := by rw [hwc]; exact (Below.refl _ _).alloc (Nat.le_refl _) _
  have Dc := hide (up Db.out dc)
  have Rc := hide (And.intro (Rb.out.1.below dc) (Rb.out.2.below dc))
  clear dc hwc Db Rb
  go_upto_region 7 with (go_at_call 36; refine (kn_l _ (HE.out.below Dc.out)).mono ?_; rintro e wd ⟨al, cl, rfl, rq, dd⟩; have Dd := hide (up Dc.out dd); have Rd' := hide (And.intro (Rc.out.1.below dd) (And.intro (Rc.out.2.below dd) rq)); clear dd rq Dc Rc)
  go_upto_region 9 with (go_at_call 42; refine (kPop _).mono ?_; rintro e we ⟨p7, rfl, rp, de⟩; have De := hide (up Dd.out de); have Re := hide (And.intro (Rd'.out.1.below de) (And.intro (Rd'.out.2.1.below de) (Rd'.out.2.2.below de))); have HP7 := hide rp; clear de rp Dd Rd')
  obtain ⟨w8, hw8⟩ : ∃ q, q = we.alloc (.cells #[.slice p7 2 2, .int .i64 5, .string ⟨#[113]⟩, .int .i64 6, .int .i64 0, .string ⟨#[]⟩] 34) := ⟨_, rfl⟩
  rw [← hw8]
  have d8 : Below we.heap.size we w8 := by rw [hw8]; exact (Below.refl _ _).alloc (Nat.le_refl _) _
  have m8 : w8.heap[we.heap.size]? = some (.cells #[.slice p7 2 2, .int .i64 5, .string ⟨#[113]⟩, .int .i64 6, .int .i64 0, .string ⟨#[]⟩] 34 (0, 0)) := by rw [hw8]; exact heap_alloc_new _ _
  obtain ⟨B13, hB13⟩ : ∃ q, q = we.heap.size := ⟨_, rfl⟩
  rw [← hB13] at m8 ⊢
  have D8 := hide (up De.out d8)
  have R8 := hide (And.intro (Re.out.1.below d8) (And.intro (Re.out.2.1.below d8) (Re.out.2.2.below d8)))
  have HR7 := hide (HP7.out.below d8)
  obtain ⟨⟨q0, q1, q2, q3, q4, q5⟩, -⟩ := blk6 m8
  clear m8 d8 hw8 hB13 De Re HP7
  have HS : Hid (∀ W, Below w8.heap.size w8 W → W.cell? ⟨B13, 0, none⟩ = some (.slice p7 2 2) ∧ W.cell? ⟨B13, 1, none⟩ = some (.int .i64 5) ∧ W.cell? ⟨B13, 2, none⟩ = some (.string ⟨#[113]⟩) ∧ W.cell? ⟨B13, 3, none⟩ = some (.int .i64 6) ∧ W.cell? ⟨B13, 4, none⟩ = some (.int .i64 0) ∧ W.cell? ⟨B13, 5, none⟩ = some (.string ⟨#[]⟩)) := hide (fun W hW => ⟨Ki.cell_stays q0 hW, Ki.cell_stays q1 hW, Ki.cell_stays q2 hW, Ki.cell_stays q3 hW, Ki.cell_stays q4 hW, Ki.cell_stays q5 hW⟩)
  refine wp_region_held_drew (S := fun w' => w'.cell? ⟨B13, 0, none⟩ = some (.slice p7 2 2) ∧ w'.cell? ⟨B13, 1, none⟩ = some (.int .i64 5) ∧ w'.cell? ⟨B13, 2, none⟩ = some (.string ⟨#[113]⟩) ∧ w'.cell? ⟨B13, 3, none⟩ = some (.int .i64 6) ∧ w'.cell? ⟨B13, 4, none⟩ = some (.int .i64 0) ∧ w'.cell? ⟨B13, 5, none⟩ = some (.string ⟨#[]⟩)) (by kernel_rfl) (HS.out _ (Below.refl _ _).drew) (fun hHeld => ?_)
  obtain ⟨Wd, hWd⟩ : ∃ q, q = w8.drew := ⟨_, rfl⟩
  have b0 : Below w8.heap.size w8 Wd := by rw [hWd]; exact (Below.refl _ _).drew
  rw [← hWd] at hHeld ⊢
  clear hWd q0 q1 q2 q3 q4 q5
  refine take_op (i := 0) (d := 46) (OP := Op.load 34 (Operand.tmp 13)) (T := 34) (v := ?vog1) rfl rfl rfl rfl (by kernel_rfl) (by kernel_rfl) (by kernel_rfl) (fun _ _ _ h => h) (by rfl) ?hog1 hHeld ?rog1
  case hog1 => (intro w' hSw; (try dsimp only at hSw); go_simp <;> with_reducible rfl)
  try simp only [Act.put, List.setIfInBounds_toArray, List.set_cons_zero, List.set_cons_succ]
  refine call_op (i := 1) (d := 47) (OP := Op.call { callee := Callee.value (Operand.func 42), args := #[], argTypes := #[] }) (T := 34) (f := 42) (args := #[]) rfl rfl rfl rfl (by kernel_rfl) (by rfl) (by go_simp) ?_
  refine (kPop _).mono ?_
  rintro e y1 ⟨pa1, rfl, ry1, dy1⟩
  have by1 := b0.trans (dy1.mono b0.size)
  have sy1 := HS.out y1 by1
  refine ⟨_, rfl, sy1, ?_⟩
  replace hHeld := sy1
  try simp only [Act.put, List.setIfInBounds_toArray, List.set_cons_zero, List.set_cons_succ]
  refine call_op (i := 2) (d := 48) (OP := Op.call { callee := Callee.value (Operand.func 41), args := #[Operand.tmp 46, Operand.tmp 47], argTypes := #[34, 34] }) (T := 4) (f := 41) (args := #[(.agg #[.slice p7 2 2, .int .i64 5, .string ⟨#[113]⟩, .int .i64 6, .int .i64 0, .string ⟨#[]⟩]), (.agg #[.slice pa1 2 2, .int .i64 4, .string ⟨#[113]⟩, .int .i64 6, .int .i64 0, .string ⟨#[]⟩])]) rfl rfl rfl rfl (by kernel_rfl) (by rfl) (by go_simp) ?_
  refine (kS1 y1 p7 pa1 (HR7.out.below (by1)) ry1).mono ?_
  rintro e y2 ⟨rfl, dy2⟩
  have by2 := by1.trans (dy2.mono by1.size)
  have sy2 := HS.out y2 by2
  refine ⟨_, rfl, sy2, ?_⟩
  replace hHeld := sy2
  try simp only [Act.put, List.setIfInBounds_toArray, List.set_cons_zero, List.set_cons_succ]
  refine take_op (i := 3) (d := 49) (OP := Op.move (Operand.tmp 48)) (T := 4) (v := ?vog2) rfl rfl rfl rfl (by kernel_rfl) (by kernel_rfl) (by kernel_rfl) (fun _ _ _ h => h) (by rfl) ?hog2 hHeld ?rog2
  case hog2 => (intro w' hSw; (try dsimp only at hSw); go_simp <;> with_reducible rfl)
  try simp only [Act.put, List.setIfInBounds_toArray, List.set_cons_zero, List.set_cons_succ]
  refine call_op (i := 4) (d := 50) (OP := Op.call { callee := Callee.value (Operand.func 42), args := #[], argTypes := #[] }) (T := 34) (f := 42) (args := #[]) rfl rfl rfl rfl (by kernel_rfl) (by rfl) (by go_simp) ?_
  refine (kPop _).mono ?_
  rintro e y3 ⟨pa3, rfl, ry3, dy3⟩
  have by3 := by2.trans (dy3.mono by2.size)
  have sy3 := HS.out y3 by3
  refine ⟨_, rfl, sy3, ?_⟩
  replace hHeld := sy3
  try simp only [Act.put, List.setIfInBounds_toArray, List.set_cons_zero, List.set_cons_succ]
  refine call_op (i := 5) (d := 51) (OP := Op.call { callee := Callee.value (Operand.func 42), args := #[], argTypes := #[] }) (T := 34) (f := 42) (args := #[]) rfl rfl rfl rfl (by kernel_rfl) (by rfl) (by go_simp) ?_
  refine (kPop _).mono ?_
  rintro e y4 ⟨pa4, rfl, ry4, dy4⟩
  have by4 := by3.trans (dy4.mono by3.size)
  have sy4 := HS.out y4 by4
  refine ⟨_, rfl, sy4, ?_⟩
  replace hHeld := sy4
  try simp only [Act.put, List.setIfInBounds_toArray, List.set_cons_zero, List.set_cons_succ]
  refine call_op (i := 6) (d := 52) (OP := Op.call { callee := Callee.value (Operand.func 41), args := #[Operand.tmp 50, Operand.tmp 51], argTypes := #[34, 34] }) (T := 4) (f := 41) (args := #[(.agg #[.slice pa3 2 2, .int .i64 4, .string ⟨#[113]⟩, .int .i64 6, .int .i64 0, .string ⟨#[]⟩]), (.agg #[.slice pa4 2 2, .int .i64 4, .string ⟨#[113]⟩, .int .i64 6, .int .i64 0, .string ⟨#[]⟩])]) rfl rfl rfl rfl (by kernel_rfl) (by rfl) (by go_simp) ?_
  refine (kS2 y4 pa3 pa4 (ry3.below dy4) ry4).mono ?_
  rintro e y5 ⟨rfl, dy5⟩
  have by5 := by4.trans (dy5.mono by4.size)
  have sy5 := HS.out y5 by5
  refine ⟨_, rfl, sy5, ?_⟩
  replace hHeld := sy5
  try simp only [Act.put, List.setIfInBounds_toArray, List.set_cons_zero, List.set_cons_succ]
  refine take_op (i := 7) (d := 53) (OP := Op.unOp UnOp.not 4 (Operand.tmp 52)) (T := 4) (v := ?vog3) rfl rfl rfl rfl (by kernel_rfl) (by kernel_rfl) (by kernel_rfl) (fun _ _ _ h => h) (by rfl) ?hog3 hHeld ?rog3
  case hog3 => (intro w' hSw; (try dsimp only at hSw); go_simp <;> with_reducible rfl)
  try simp only [Act.put, List.setIfInBounds_toArray, List.set_cons_zero, List.set_cons_succ]
  refine take_op (i := 8) (d := 54) (OP := Op.pick (Operand.tmp 49) (Operand.const (Value.bool true)) (Operand.tmp 53)) (T := 4) (v := ?vog4) rfl rfl rfl rfl (by kernel_rfl) (by kernel_rfl) (by kernel_rfl) (fun _ _ _ h => h) (by rfl) ?hog4 hHeld ?rog4
  case hog4 => (intro w' hSw; (try dsimp only at hSw); go_simp <;> with_reducible rfl)
  try simp only [Act.put, List.setIfInBounds_toArray, List.set_cons_zero, List.set_cons_succ]
  refine wpAnyH_done (by kernel_rfl) ?_ _
  have b5 := by5
  have hcv1 := conv_rd (cap := c1) (n := 8) (R8.out.1.below by5) rfl
  have hcv3 := conv_rd (cap := c3) (n := 8) (R8.out.2.1.below by5) rfl
  rw [show strOfNums [1, 0, 4, 104, 105, 116, 115, 6] = ⟨#[1, 0, 4, 104, 105, 116, 115, 6]⟩ from by kernel_rfl] at hcv1
  rw [show strOfNums [6, 2, 1, 97, 1, 98, 1, 113] = ⟨#[6, 2, 1, 97, 1, 98, 1, 113]⟩ from by kernel_rfl] at hcv3
  have hks : (knS.toList == [97, 100, 100, 32, 47, 32, 104, 105, 116, 115, 32, 51, 59, 32, 112, 111, 112, 32, 47, 97, 47, 98, 32, 113]) = true := by kernel_rfl
  have D5 := hide (up D8.out by5)
  have RQ := hide (R8.out.2.2.below by5)
  clear HS hHeld by1 by2 by3 by4 by5 b0 b5 sy1 sy2 sy3 sy4 sy5 dy1 dy2 dy3 dy4 dy5 ry1 ry3 ry4 kS1 kS2 D8 R8 HR7
  go_wp2_with (first
    | (go_at_call 20; refine (kn_q _ _ _ cl 2 (RQ3.out.below ((Below.refl _ x3).alloc (Nat.le_refl _) _)) (rq_two (heap_alloc_new x3 (.cells (twoC px) 34)) (HPx.out.below ((Below.refl _ x3).alloc (Nat.le_refl _) _)))).mono ?_; rintro e x4 ⟨rfl, d4⟩; have E4 := hide (up (up E3.out ((Below.refl _ x3).alloc (Nat.le_refl _) _)) d4); clear d4)
    | (go_at_call 42; refine (kPop _).mono ?_; rintro e x3 ⟨px, rfl, rp, d3⟩; have E3 := hide (up E2.out d3); have RQ3 := hide (RQ2.out.below d3); have HPx := hide rp; clear d3 rp E2 RQ2)
    | (go_at_call 43; refine (kAdd _).mono ?_; rintro e x2 ⟨rfl, d2⟩; have E2 := hide (up D5.out d2); have RQ2 := hide (RQ.out.below d2); clear d2 RQ D5)
    | (go_at_call 14; refine (k14 _ _).mono ?_; rintro e x1 ⟨rfl, hx1⟩; subst hx1))
  go_ret
  exact ⟨rfl, E4.out⟩
end Go.Proofs.YtpepgoelnagoaaaGreatDoor
namespace Go.Proofs.YtpepgoelnagoaaaGreatDoor
open Go.RowKit Go.Shelf
set_option linter.unusedSimpArgs false
set_option linter.unusedVariables false
attribute [local go_sem] Oper.semAt_some

/-- Few enough, and short enough. -/
structure SmallL (l : List Od) : Prop where
  len : l.length ≤ 120
  path : ∀ o ∈ l, o.p.length ≤ 60000
  key : ∀ o ∈ l, o.s.size ≤ 60000
  text : ∀ o ∈ l, o.t.size ≤ 60000

end Go.Proofs.YtpepgoelnagoaaaGreatDoor
namespace Go.Proofs.YtpepgoelnagoaaaGreatDoor
open Go.RowKit Go.Shelf
set_option linter.unusedSimpArgs false
set_option linter.unusedVariables false

theorem ints_u8 (l : List UInt8) : U8 (ints l) := fun y hy => by
  obtain ⟨b, -, rfl⟩ := List.mem_map.1 hy
  have := b.toNat_lt
  omega
theorem u8_app {l m : List Int} (h : U8 l) (k : U8 m) : U8 (l ++ m) := fun y hy => (List.mem_append.1 hy).elim (h y) (k y)
theorem frB_u8 (s : ByteArray) : U8 (frB s) := u8_app (Plain.numL_bytes _) (ints_u8 _)
theorem flat_u8 {α : Type} {f : α → List Int} {l : List α} (h : ∀ x, U8 (f x)) : U8 (l.flatMap f) := fun y hy => by
  obtain ⟨x, -, hx⟩ := List.mem_flatMap.1 hy
  exact h x y hx
theorem frO_u8 (o : Od) : U8 (frO o) := by
  unfold frO frP frN
  refine u8_app (u8_app (u8_app (Plain.numL_bytes _) (u8_app (Plain.numL_bytes _) (flat_u8 frB_u8))) (frB_u8 _)) ?_
  split
  · exact Plain.numL_bytes _
  · split
    · intro y hy; cases hy
    · exact frB_u8 _
end Go.Proofs.YtpepgoelnagoaaaGreatDoor
namespace Go.Proofs.YtpepgoelnagoaaaGreatDoor
open Go.RowKit Go.Shelf
set_option linter.unusedSimpArgs false
set_option linter.unusedVariables false

theorem u8_drop {q : List Int} (h : U8 q) (k : Nat) : U8 (q.drop k) := fun x hx => h x (List.mem_of_mem_drop hx)
theorem u8_take {q : List Int} (h : U8 q) (k : Nat) : U8 (q.take k) := fun x hx => h x (List.mem_of_mem_take hx)
theorem rnum_inv {q : List Int} (h8 : U8 q) (h : (rnum q).2.1 = 0) : q = Plain.numL (rnum q).1 ++ (rnum q).2.2 ∧ (rnum q).1 < 18446744073709551616 := by
  rcases hr : Plain.readN 0 0 q with _ | ⟨n, k⟩
  · rw [rnum_none hr] at h; cases h
  · rw [rnum_some hr]
    obtain ⟨m, h1, h2, h3, h4, h5, h6, h7⟩ := Plain.readN_spec q 0 0 n k (by omega) (by simp) h8 hr
    have hm : n = m := by simpa using h1
    subst hm
    refine ⟨?_, h2⟩
    show q = Plain.numL n ++ q.drop k
    rw [← h6, Nat.sub_zero, List.take_append_drop]
theorem rnum_sub (q : List Int) : ∃ k, (rnum q).2.2 = q.drop k := by
  rcases hr : Plain.readN 0 0 q with _ | ⟨n, k⟩
  · rw [rnum_none hr]; exact ⟨0, rfl⟩
  · rw [rnum_some hr]; exact ⟨k, rfl⟩
theorem rcount_sub (most : Int) (q : List Int) : ∃ k, (rcount most q).2.2 = q.drop k := by
  unfold rcount
  split
  · exact ⟨0, rfl⟩
  · split
    · exact ⟨0, rfl⟩
    · split
      · exact ⟨0, rfl⟩
      · exact ⟨_, rfl⟩
theorem sub_sub {q r s : List Int} (h : ∃ k, r = q.drop k) (g : ∃ k, s = r.drop k) : ∃ k, s = q.drop k := by
  obtain ⟨a, rfl⟩ := h
  obtain ⟨b, rfl⟩ := g
  exact ⟨a + b, by rw [List.drop_drop]⟩
theorem sub_u8 {q r : List Int} (h8 : U8 q) (h : ∃ k, r = q.drop k) : U8 r := by
  obtain ⟨k, rfl⟩ := h
  exact u8_drop h8 k
theorem rbytes_sub (most : Int) (q : List Int) : ∃ k, (rbytes most q).2.2 = q.drop k := by
  unfold rbytes
  split
  · split
    · exact ⟨0, rfl⟩
    · exact sub_sub (rcount_sub most q) ⟨_, rfl⟩
  · exact ⟨0, rfl⟩
theorem rcount_inv {most : Int} {q : List Int} (h8 : U8 q) (h : (rcount most q).2.1 = 0) : ∃ n : Nat, (rcount most q).1 = n ∧ (n : Int) ≤ most ∧ q = Plain.numL n ++ (rcount most q).2.2 ∧ n < 18446744073709551616 ∧ rnum q = (n, 0, (rcount most q).2.2) := by
  revert h
  unfold rcount
  split
  · intro h; cases h
  · split
    · intro h; cases h
    · rename_i n k hr
      split
      · intro h; cases h
      · rename_i hle
        intro _
        have hq := rnum_inv h8 (by rw [rnum_some hr])
        rw [rnum_some hr] at hq
        exact ⟨n, rfl, by omega, hq.1, hq.2, rnum_some hr⟩
theorem rbytes_inv {most : Int} {q : List Int} (h8 : U8 q) (h : (rbytes most q).2.1 = 0) : q = Plain.numL (rbytes most q).1.length ++ (rbytes most q).1 ++ (rbytes most q).2.2 ∧ ((rbytes most q).1.length : Int) ≤ most ∧ (rbytes most q).1.length < 18446744073709551616 := by
  revert h
  unfold rbytes
  split
  · rename_i hc
    split
    · intro h; cases h
    · rename_i hl
      intro _
      obtain ⟨n, h1, h2, h3, h4, -⟩ := rcount_inv h8 hc
      rw [h1] at hl ⊢
      have hn : n ≤ (rcount most q).2.2.length := by omega
      have hlen : ((rcount most q).2.2.take n).length = n := by rw [List.length_take]; omega
      rw [Int.toNat_natCast]
      dsimp only
      rw [hlen, List.append_assoc, List.take_append_drop]
      exact ⟨h3, h2, h4⟩
  · rename_i hc
    intro h
    exact absurd h hc
theorem rbytes_u8 (most : Int) {q : List Int} (h8 : U8 q) : U8 (rbytes most q).1 := by
  unfold rbytes
  split
  · split
    · intro x hx; cases hx
    · exact u8_take (sub_u8 h8 (rcount_sub most q)) _
  · intro x hx; cases hx
theorem frB_str {b : List Int} (h8 : U8 b) : frB (strOfNums b) = Plain.numL b.length ++ b := by
  unfold frB
  have h : ints (strOfNums b).data.toList = b := str_back h8
  have hs : (strOfNums b).size = b.length := by rw [Lib.size_eq, ← ints_length, h]
  rw [h, hs]
theorem rtext_inv {most : Int} {q : List Int} (h8 : U8 q) (h : (rtext most q).2.1 = 0) : q = frB (rtext most q).1 ++ (rtext most q).2.2 := by
  obtain ⟨h1, -, -⟩ := rbytes_inv (most := most) h8 h
  show q = frB (strOfNums (rbytes most q).1) ++ (rbytes most q).2.2
  rw [frB_str (rbytes_u8 most h8)]
  exact h1
theorem rtext_sub (most : Int) (q : List Int) : ∃ k, (rtext most q).2.2 = q.drop k := rbytes_sub most q
theorem rstrs_sub : ∀ (n : Nat) (q : List Int), ∃ k, (rstrs n q).2.2 = q.drop k
  | 0, q => ⟨0, rfl⟩
  | n + 1, q => by
    rw [rstrs_succ]
    split
    · exact sub_sub (rtext_sub 64 q) (rstrs_sub n _)
    · exact rtext_sub 64 q
theorem rstrs_inv : ∀ (n : Nat) {q : List Int}, U8 q → (rstrs n q).2.1 = 0 → (rstrs n q).1.length = n ∧ q = (rstrs n q).1.flatMap frB ++ (rstrs n q).2.2
  | 0, q, _, _ => ⟨rfl, rfl⟩
  | n + 1, q, h8, h => by
    rw [rstrs_succ] at h ⊢
    split at h
    · rename_i h1
      rw [if_pos h1]
      dsimp only at h ⊢
      obtain ⟨a, b⟩ := rstrs_inv n (sub_u8 h8 (rtext_sub 64 q)) h
      have c := rtext_inv h8 h1
      refine ⟨by rw [List.length_cons, a], ?_⟩
      rw [List.flatMap_cons, List.append_assoc, ← b]
      exact c
    · rename_i h1
      exact absurd h h1
theorem rpath_sub (q : List Int) : ∃ k, (rpath q).2.2 = q.drop k := by
  unfold rpath
  split
  · split
    · exact sub_sub (rcount_sub 6 q) (rstrs_sub _ _)
    · exact ⟨0, rfl⟩
  · exact ⟨0, rfl⟩
theorem rpath_inv {q : List Int} (h8 : U8 q) (h : (rpath q).2.1 = 0) : q = frP (rpath q).1 ++ (rpath q).2.2 := by
  revert h
  unfold rpath
  split
  · rename_i hc
    split
    · rename_i hs
      intro _
      obtain ⟨n, h1, -, h3, -, -⟩ := rcount_inv h8 hc
      rw [h1] at hs ⊢
      rw [Int.toNat_natCast] at hs ⊢
      obtain ⟨a, b⟩ := rstrs_inv n (sub_u8 h8 (rcount_sub 6 q)) hs
      unfold frP
      rw [a, List.append_assoc, ← b]
      exact h3
    · rename_i hs
      intro h
      exact absurd h hs
  · rename_i hc
    intro h
    exact absurd h hc
theorem fold_unfold {n : Nat} (h : n < 18446744073709551616) : Plain.fold (unfoldN n) = n := by
  unfold unfoldN Plain.fold
  by_cases h2 : n % 2 = 1
  · rw [if_pos h2, if_pos (by omega)]; omega
  · rw [if_neg h2, if_neg (by omega)]; omega
theorem unfold_i64 {n : Nat} (h : n < 18446744073709551616) : I64 (unfoldN n) := by
  unfold I64 unfoldN
  split <;> omega
theorem fmN_inv {q : List Int} (h8 : U8 q) (h : (fmN q).2.1 = 0) : q = Plain.numL (Plain.fold (fmN q).1) ++ (fmN q).2.2 := by
  obtain ⟨h1, h2⟩ := rnum_inv h8 h
  rw [fmN_is h2]
  show q = Plain.numL (Plain.fold (unfoldN (rnum q).1)) ++ (rnum q).2.2
  rw [fold_unfold h2]
  exact h1
theorem fmD_inv {q : List Int} (h8 : U8 q) (h : (fmD q).2.1 = 0) : q = Plain.numL (fmD q).1.toNat ++ (fmD q).2.2 ∧ 0 ≤ (fmD q).1 ∧ (fmD q).1 ≤ 7 := by
  revert h
  unfold fmD
  dsimp only
  by_cases h7 : 7 < (rnum q).1
  · rw [if_pos h7]; intro h; cases h
  · rw [if_neg h7, if_neg h7]
    intro h
    obtain ⟨h1, -⟩ := rnum_inv h8 h
    exact ⟨by rw [Int.toNat_natCast]; exact h1, by omega, by omega⟩
theorem fld_z {α σ : Type} {f : σ → α × Int × σ} {z : α} {er : Int} {q : σ} (h : (fld f z er q).2.1 = 0) : er = 0 ∧ fld f z er q = f q := by
  unfold fld at h ⊢
  split at h
  · rename_i h0; exact ⟨h0, if_pos h0⟩
  · rename_i h0; exact absurd h h0
theorem rdO_inv {q : List Int} (h8 : U8 q) (h : (rdO fmZ q).2.1 = 0) : q = frO (rdO fmZ q).1 ++ (rdO fmZ q).2.2 ∧ I64 (rdO fmZ q).1.n := by
  have e4 : (rd4 fmZ (rd3 fmZ q).1.1 (rd3 fmZ q).2.1 (rd3 fmZ q).2.2).2.1 = 0 := h
  have eo : rdO fmZ q = (⟨(rd3 fmZ q).1.2.1, Ki.ofD (rd3 fmZ q).1.1, (rd3 fmZ q).1.2.2, (rd3 fmZ q).1.1, (rd4 fmZ (rd3 fmZ q).1.1 (rd3 fmZ q).2.1 (rd3 fmZ q).2.2).1.1, (rd4 fmZ (rd3 fmZ q).1.1 (rd3 fmZ q).2.1 (rd3 fmZ q).2.2).1.2⟩, (rd4 fmZ (rd3 fmZ q).1.1 (rd3 fmZ q).2.1 (rd3 fmZ q).2.2).2.1, (rd4 fmZ (rd3 fmZ q).1.1 (rd3 fmZ q).2.1 (rd3 fmZ q).2.2).2.2) := rfl
  rw [eo]
  clear h eo
  have e3 : (rd3 fmZ q).2.1 = 0 := by
    revert e4
    generalize (rd3 fmZ q).1.1 = d
    generalize (rd3 fmZ q).2.1 = er
    intro e4
    unfold rd4 at e4
    split at e4
    · exact (fld_z e4).1
    · split at e4
      · exact e4
      · exact (fld_z e4).1
  have er3 : rd3 fmZ q = (((fld fmZ.pd 0 0 q).1, (fld fmZ.pp [] (fld fmZ.pd 0 0 q).2.1 (fld fmZ.pd 0 0 q).2.2).1, (fld fmZ.pk ⟨#[]⟩ (fld fmZ.pp [] (fld fmZ.pd 0 0 q).2.1 (fld fmZ.pd 0 0 q).2.2).2.1 (fld fmZ.pp [] (fld fmZ.pd 0 0 q).2.1 (fld fmZ.pd 0 0 q).2.2).2.2).1), (fld fmZ.pk ⟨#[]⟩ (fld fmZ.pp [] (fld fmZ.pd 0 0 q).2.1 (fld fmZ.pd 0 0 q).2.2).2.1 (fld fmZ.pp [] (fld fmZ.pd 0 0 q).2.1 (fld fmZ.pd 0 0 q).2.2).2.2).2) := rfl
  rw [er3] at e3 e4 ⊢
  clear er3
  dsimp only at e3 e4 ⊢
  obtain ⟨g1, f1⟩ := fld_z e3
  rw [f1] at e3 e4 ⊢
  clear f1
  obtain ⟨g2, f2⟩ := fld_z g1
  rw [f2] at e3 e4 g1 ⊢
  clear f2
  have f3 : fld fmZ.pd 0 0 q = fmD q := if_pos rfl
  rw [f3] at e3 e4 g1 g2 ⊢
  clear f3
  have D := fmD_inv h8 g2
  have d8 : U8 (fmD q).2.2 := sub_u8 h8 (rnum_sub q)
  generalize fmD q = A at D d8 e3 e4 g1 ⊢
  obtain ⟨d, _, q1⟩ := A
  dsimp only at D d8 e3 e4 g1 ⊢
  have P := rpath_inv d8 g1
  have p8 : U8 (rpath q1).2.2 := sub_u8 d8 (rpath_sub q1)
  replace e3 : (rtext 64 (rpath q1).2.2).2.1 = 0 := e3
  have T := rtext_inv p8 e3
  have t8 : U8 (rtext 64 (rpath q1).2.2).2.2 := sub_u8 p8 (rtext_sub 64 _)
  show q = frO ⟨(rpath q1).1, Ki.ofD d, (rtext 64 (rpath q1).2.2).1, d, (rd4 fmZ d (rtext 64 (rpath q1).2.2).2.1 (rtext 64 (rpath q1).2.2).2.2).1.1, (rd4 fmZ d (rtext 64 (rpath q1).2.2).2.1 (rtext 64 (rpath q1).2.2).2.2).1.2⟩ ++ (rd4 fmZ d (rtext 64 (rpath q1).2.2).2.1 (rtext 64 (rpath q1).2.2).2.2).2.2 ∧ I64 (rd4 fmZ d (rtext 64 (rpath q1).2.2).2.1 (rtext 64 (rpath q1).2.2).2.2).1.1
  replace e4 : (rd4 fmZ d (rtext 64 (rpath q1).2.2).2.1 (rtext 64 (rpath q1).2.2).2.2).2.1 = 0 := e4
  generalize rpath q1 = B at P T e3 e4 t8 ⊢
  obtain ⟨p, _, q2⟩ := B
  dsimp only at P T e3 e4 t8 ⊢
  generalize rtext 64 q2 = C at T e3 e4 t8 ⊢
  obtain ⟨s, er, q3⟩ := C
  dsimp only at T e3 e4 t8 ⊢
  subst e3
  have hfr : ∀ n t, frO ⟨p, Ki.ofD d, s, d, n, t⟩ = Plain.numL d.toNat ++ frP p ++ frB s ++ (if d = 1 then Plain.numL (Plain.fold n) else if d = 6 then [] else frB t) := fun _ _ => rfl
  rw [hfr]
  have hq : q = Plain.numL d.toNat ++ frP p ++ frB s ++ q3 := by rw [List.append_assoc, List.append_assoc, ← T, ← P]; exact D.1
  unfold rd4 at e4 ⊢
  by_cases h1 : d = 1
  · rw [if_pos h1] at e4 ⊢
    rw [if_pos h1]
    have f4 : fld fmZ.pn 0 0 q3 = fmN q3 := if_pos rfl
    rw [f4] at e4 ⊢
    dsimp only at e4 ⊢
    refine ⟨?_, fmN_i64 q3⟩
    rw [List.append_assoc _ (Plain.numL _), ← fmN_inv t8 e4]
    exact hq
  · rw [if_neg h1] at e4 ⊢
    rw [if_neg h1]
    by_cases h6 : d = 6
    · rw [if_pos h6] at e4 ⊢
      rw [if_pos h6]
      dsimp only
      exact ⟨by rw [List.append_nil]; exact hq, by unfold I64; omega⟩
    · rw [if_neg h6] at e4 ⊢
      rw [if_neg h6]
      have f4 : fld fmZ.pt ⟨#[]⟩ 0 q3 = rtext 256 q3 := if_pos rfl
      rw [f4] at e4 ⊢
      dsimp only at e4 ⊢
      refine ⟨?_, by unfold I64; omega⟩
      rw [List.append_assoc _ (frB _), ← rtext_inv t8 e4]
      exact hq
theorem ropF_inv {q : List Int} (h8 : U8 q) (h : (ropF q).2.1 = 0) : q = frO (ropF q).1 ++ (ropF q).2.2 ∧ chkO (ropF q).1 = 0 ∧ I64 (ropF q).1.n := by
  have hd : ropF q = ((readS fmZ q).1, (readS fmZ q).2, if (readS fmZ q).2 = 0 then (rdO fmZ q).2.2 else q) := rfl
  rw [hd] at h ⊢
  dsimp only at h ⊢
  rw [if_pos h]
  have hs : readS fmZ q = if (rdO fmZ q).2.1 = 0 ∧ chkO (rdO fmZ q).1 = 0 then ((rdO fmZ q).1, 0) else (odZ, 4) := rfl
  rw [hs] at h ⊢
  split at h
  · rename_i hc
    rw [if_pos hc]
    obtain ⟨a, b⟩ := rdO_inv h8 hc.1
    exact ⟨a, hc.2, b⟩
  · cases h
theorem ropF_no {q : List Int} (h : (ropF q).2.1 ≠ 0) : ropF q = (odZ, 4, q) := by
  have hd : ropF q = ((readS fmZ q).1, (readS fmZ q).2, if (readS fmZ q).2 = 0 then (rdO fmZ q).2.2 else q) := rfl
  rw [hd] at h ⊢
  dsimp only at h
  rw [if_neg h]
  have hs : readS fmZ q = if (rdO fmZ q).2.1 = 0 ∧ chkO (rdO fmZ q).1 = 0 then ((rdO fmZ q).1, 0) else (odZ, 4) := rfl
  rw [hs] at h ⊢
  split at h
  · exact absurd rfl h
  · rename_i hc
    rw [if_neg hc]
end Go.Proofs.YtpepgoelnagoaaaGreatDoor
