/-
  OPS: what OpsNil 7 calls: Take 26 of no reader, pop 42 with its path owned, an append that keeps the row behind it.
  OPS: closed facts of OpsNil: sixty-four pops.
  OPS: known 9.
  OPS: what OpsNil 7 calls tells.
-/
import Derived.Test.YtpepgoelnagoaaaGreatDoorMg15
import Derived.Test.YtpepgoelnagoaaaGreatDoorMg16
import Derived.Deep.DeepAppendRoom
import Derived.ArgAppend
namespace Go.Proofs.YtpepgoelnagoaaaGreatDoor
open Go.RowKit Go.Shelf
set_option linter.unusedSimpArgs false
set_option linter.unusedVariables false
attribute [local go_sem] Oper.semAt_some

set_option maxHeartbeats 1000000 in
set_option maxRecDepth 100000 in
theorem take26_no (v : Value) (w : World) (h : ∀ W, Below w.heap.size w W → NoRdr W v) : Calls Tryz.prog 26 #[v] w fun e w' => e = .returned (.tuple #[odv none 0 0 odZ, .int .i64 1]) ∧ Below w.heap.size w w' := by
  obtain ⟨w1, hw1⟩ : ∃ r, r = w.alloc (.cells (oc6 (.slice none 0 0) 0 ⟨#[]⟩ 0 0 ⟨#[]⟩) 34) := ⟨_, rfl⟩
  have d1 : Below w.heap.size w w1 := by rw [hw1]; exact (Below.refl _ w).alloc (Nat.le_refl _) _
  have m1 : w1.heap[w.heap.size]? = some (.cells (oc6 (.slice none 0 0) 0 ⟨#[]⟩ 0 0 ⟨#[]⟩) 34 (0, 0)) := by rw [hw1]; exact heap_alloc_new _ _
  have k69 := end_no v w1 (h w1 d1)
  obtain ⟨⟨z0, z1, z2, z3, z4, z5⟩, h0, h1, h2, h3, h4, h5⟩ := blk6 m1
  have HW := hide (And.intro hw1 (And.intro d1 m1))
  clear h hw1 d1 m1
  go_enter Tryz.func26, Tryz.ntmps26
  go_upto_region 1 with fail
  rw [← HW.out.1]
  go_wp2_with (go_at_call 69; refine k69.mono ?_; rintro e wm ⟨rfl, hm⟩; have hm := hm.symm; subst hm)
  refine ret_row_tmp w.heap.size (oc6 (.slice none 0 0) 0 ⟨#[]⟩ 0 0 ⟨#[]⟩).toList rfl rfl rfl Tryz.underlying34 rfl Tryz.info34z (set6 HW.out.2.2) rfl ?_
  exact ⟨rfl, HW.out.2.1.trans (only6.below HW.out.2.1.size (fun j hj => by omega))⟩

set_option maxHeartbeats 1000000 in
set_option maxRecDepth 100000 in
theorem pop42o_any (w : World) : Calls Tryz.prog 42 #[] w fun e w' => ∃ pa, e = .returned (odv pa 2 2 popO) ∧ Os w' w.heap.size (.slice pa 2 2) popO.p ∧ Below w.heap.size w w' := by
  obtain ⟨w1, hw1⟩ : ∃ q, q = (w.alloc (.cells (oc6 (.slice (some ⟨w.heap.size + 1, 0, none⟩) 2 2) 4 ⟨#[113]⟩ 6 0 ⟨#[]⟩) 34)).alloc (.cells #[.string ⟨#[97]⟩, .string ⟨#[98]⟩] 9) := ⟨_, rfl⟩
  obtain ⟨m1, m2⟩ := new2 w (.cells (oc6 (.slice (some ⟨w.heap.size + 1, 0, none⟩) 2 2) 4 ⟨#[113]⟩ 6 0 ⟨#[]⟩) 34) (.cells #[.string ⟨#[97]⟩, .string ⟨#[98]⟩] 9)
  have d : Below w.heap.size w w1 := by rw [hw1]; exact ((Below.refl _ w).alloc (Nat.le_refl _) _).alloc (by simp) _
  rw [← hw1] at m1 m2
  have hos : Os w1 w.heap.size (.slice (some ⟨w.heap.size + 1, 0, none⟩) 2 2) popO.p := ⟨rfl, .inr ⟨w.heap.size + 1, 2, _, rfl, Nat.le_succ _, m2, Nat.le_refl _, by decide, rfl, rfl⟩⟩
  go_enter Tryz.func42, Tryz.ntmps42
  go_wp2
  rw [← hw1]
  exact ret_row w.heap.size (oc6 (.slice (some ⟨w.heap.size + 1, 0, none⟩) 2 2) 4 ⟨#[113]⟩ 6 0 ⟨#[]⟩).toList rfl rfl Tryz.underlying34 rfl Tryz.info34z m1 rfl ⟨_, rfl, hos, d⟩

theorem row_back {w : World} {B e k g n m cap : Nat} {xs news : List Value} (h : w.ownsRow B e k (.slice (some ⟨g, 0, none⟩) (n + m) cap) (n + m) (xs ++ news)) (hl : xs.length = n * k) : w.ownsRow B e k (.slice (some ⟨g, 0, none⟩) n cap) n xs := by
  rcases h with ⟨h1, h2 | ⟨g', cap', cur, e1, hb, hg, hnc, hcm, hcs, ht⟩⟩
  · cases h2.1
  · simp only [Value.slice.injEq, Option.some.injEq, Addr.mk.injEq] at e1
    obtain ⟨⟨rfl, -⟩, -, rfl⟩ := e1
    refine ⟨hl, .inr ⟨_, _, cur, rfl, hb, hg, by omega, hcm, hcs, ?_⟩⟩
    have := congrArg (List.take (n * k)) ht
    rw [List.take_take, Nat.min_eq_left (Nat.mul_le_mul_right k (by omega)), List.take_left' hl] at this
    exact this
/-- One operation more is laid behind, and the row ahead of it stands. -/
theorem push_keep {w : World} {B b : Nat} {v : Value} {l : List Ox} {x : Ox} (hown : Oq w B v l) (hne : l ≠ []) (hx : Os w B (.slice x.2.1 x.1.p.length x.2.2) x.1.p) (hxl : x.1.p.length ≤ 1000000) (hcell : w.heap[b]? = some (.cells (oxC x).toArray 34 (0, 0))) (hp : l.length + 1 ≤ 1000000) (hB : B ≤ w.heap.size) :
    ∃ v' w', (Builtin.append_ #[22, 22] 22 #[v, .slice (some ⟨b, 0, none⟩) 1 1]).run Tryz.prog w = .ok v' w' ∧ Oq w' B v' (l ++ [x]) ∧ Oq w' B v l ∧ Only (fun k => v.ownBlock = some k) w w' ∧ Below B w w' := by
  obtain ⟨v', w', hr, h2, h3, h4⟩ := push_op hown hx hxl hcell hp hB
  refine ⟨v', w', hr, h2, ⟨?_, fun y hy => h2.path y (List.mem_append_left _ hy), hown.plen⟩, Only.ofGrown h3, h4⟩
  have hnews : ∀ (j : Nat) u, (oxC x)[j]? = some u → w.cell? ((⟨b, 0, none⟩ : Addr).add j) = some u := fun j u hj => by rw [add_lit, cell_of_row _ _ (0 + j) (oxC x).toArray 34 (0, 0) hcell, Nat.zero_add]; simpa using hj
  have h1 : ∀ u ∈ oxC x, u.oneCell' = true := fun u hu => by unfold oxC at hu; simp only [List.mem_cons, List.not_mem_nil, or_false] at hu; rcases hu with rfl | rfl | rfl | rfl | rfl | rfl <;> rfl
  have h9 := Tryz.info34
  cases hi0 : Tryz.prog.info? 34 with
  | none => rw [hi0] at h9; cases h9
  | some i0 =>
    rw [hi0] at h9
    simp only [Option.map_some, Option.some.injEq, Prod.mk.injEq] at h9
    have hrow := hown.row
    rcases hrow.2 with ⟨-, hn⟩ | ⟨g, cap, cur, rfl, hbg, hg, hnc, hcm, hcs, ht⟩
    · exact absurd (List.eq_nil_of_length_eq_zero hn) hne
    · by_cases hroom : l.length + 1 ≤ cap
      · obtain ⟨w2, hr2, ho2, -⟩ := run_append_own_spare (P := Tryz.prog) w B 22 22 34 i0 6 Tryz.underlying22 hi0 h9.2.1 g l.length cap (l.flatMap oxC) hrow ⟨b, 0, none⟩ 1 1 (oxC x) (by simp [oxC]) hnews h1 hroom
        rw [hr] at hr2
        simp only [Result.ok.injEq] at hr2
        obtain ⟨-, rfl⟩ := hr2
        exact row_back ho2 hrow.1
      · obtain ⟨v2, w2, hr2, -, hg2⟩ := run_append_arg_grows (P := Tryz.prog) w 22 22 34 i0 zero34 6 80 Tryz.underlying22 hi0 h9.1 h9.2.1 h9.2.2 rfl (by decide) ⟨g, 0, none⟩ l.length cap (l.flatMap oxC) hrow.1 (fun j u hj => World.ownsRow.cells hrow (g := g) rfl j u hj) ⟨b, 0, none⟩ 1 1 (oxC x) (by simp [oxC]) hnews (by omega) (by unfold maxLen; omega) (by omega)
        rw [hr] at hr2
        simp only [Result.ok.injEq] at hr2
        obtain ⟨-, rfl⟩ := hr2
        exact World.ownsRow.kept hrow hg2 (.inr (by simp [Value.ownBlock]))
end Go.Proofs.YtpepgoelnagoaaaGreatDoor
namespace Go.Proofs.YtpepgoelnagoaaaGreatDoor
open Go.RowKit Go.Shelf
set_option linter.unusedSimpArgs false
set_option linter.unusedVariables false

abbrev pops (n : Nat) : List Od := List.replicate n popO
def popT : ByteArray := ⟨(txA (pops 64)).toArray⟩
def popT2 : ByteArray := popT ++ ⟨#[59, 32, 112, 111, 112, 32, 47, 32, 113]⟩
def popsB : List ByteArray := List.replicate 64 ⟨#[112, 111, 112, 32, 47, 97, 47, 98, 32, 113]⟩
theorem kp_pieces : piecesA popT = popsB := by kernel_rfl
theorem kp_one : parseS ⟨#[112, 111, 112, 32, 47, 97, 47, 98, 32, 113]⟩ = (popO, 0) := by kernel_rfl
theorem kp_num : numOk ⟨#[112, 111, 112, 32, 47, 97, 47, 98, 32, 113]⟩ = true := by kernel_rfl
theorem kp_num2 : numOk ⟨#[112, 111, 112, 32, 47, 32, 113]⟩ = true := by kernel_rfl
theorem kp_pieces2 : piecesA popT2 = popsB ++ [⟨#[112, 111, 112, 32, 47, 32, 113]⟩] := by kernel_rfl
theorem kp_size : popT.size ≤ 1000000 ∧ popT2.size ≤ 1000000 := by constructor <;> (show (_ : Nat) ≤ _; exact of_decide_eq_true (by kernel_rfl))
theorem kp_dot : popT ≠ ⟨#[46]⟩ ∧ popT2 ≠ ⟨#[46]⟩ := by
  have h1 : popT.size = 766 := by kernel_rfl
  have h2 : popT2.size = 775 := by kernel_rfl
  exact ⟨fun e => by rw [e] at h1; revert h1; decide, fun e => by rw [e] at h2; revert h2; decide⟩
end Go.Proofs.YtpepgoelnagoaaaGreatDoor
namespace Go.Proofs.YtpepgoelnagoaaaGreatDoor
open Go.RowKit Go.Shelf
set_option linter.unusedSimpArgs false
set_option linter.unusedVariables false
attribute [local go_sem] Oper.semAt_some

abbrev addV : Value := .agg #[.slice none 0 0, .int .i64 1, .string ⟨#[104, 105, 116, 115]⟩, .int .i64 1, .int .i64 3, .string ⟨#[]⟩]
abbrev popV (pa : Option Addr) : Value := .agg #[.slice pa 2 2, .int .i64 4, .string ⟨#[113]⟩, .int .i64 6, .int .i64 0, .string ⟨#[]⟩]
theorem rp_nil (W : World) : Ki.Rp W none 0 addO.p := ⟨Rs.nil _ _, by decide, fun _ => rfl, by decide⟩
theorem i64_add : I64 addO.n := ⟨by decide, by decide⟩
theorem i64_pop : I64 popO.n := ⟨by decide, by decide⟩
theorem kn_a (W : World) (hT : Tabs W) : Calls Tryz.prog 11 #[addV] W fun e w' => ∃ a c, e = .returned (.tuple #[.slice a 8 c, .int .i64 0]) ∧ Rd w' a [1, 0, 4, 104, 105, 116, 115, 6] ∧ Below W.heap.size W w' := by
  have h := bytesO_any (pc := 0) addO (rp_nil W) i64_add hT
  have he : frE addO = [1, 0, 4, 104, 105, 116, 115, 6] := by unfold frE; rw [if_pos chk_add, fr_add]
  rw [he, chk_add] at h
  refine Calls.mono (show Calls Tryz.prog 11 #[addV] W _ from h) ?_
  rintro e w' ⟨a, c, rfl, ho, -, hb⟩
  exact ⟨a, c, rfl, ho.rd, hb⟩
theorem kn_p (W : World) (pa : Option Addr) (hp : Ki.Rp W pa 2 popO.p) (hT : Tabs W) : Calls Tryz.prog 11 #[popV pa] W fun e w' => ∃ a c, e = .returned (.tuple #[.slice a 8 c, .int .i64 0]) ∧ Rd w' a [6, 2, 1, 97, 1, 98, 1, 113] ∧ Below W.heap.size W w' := by
  have h := bytesO_any (pc := 2) popO hp i64_pop hT
  have he : frE popO = [6, 2, 1, 97, 1, 98, 1, 113] := by unfold frE; rw [if_pos chk_pop, fr_pop]
  rw [he, chk_pop] at h
  refine Calls.mono (show Calls Tryz.prog 11 #[popV pa] W _ from h) ?_
  rintro e w' ⟨a, c, rfl, ho, -, hb⟩
  exact ⟨a, c, rfl, ho.rd, hb⟩
theorem wrong_two : wrongL [addO, popO] = 0 := by kernel_rfl
theorem i64_two : ∀ o ∈ [addO, popO], I64 o.n := by
  intro o ho
  simp only [List.mem_cons, List.not_mem_nil, or_false] at ho
  rcases ho with rfl | rfl
  · exact i64_add
  · exact i64_pop
/-- The two of the chapter, in a row. -/
abbrev twoC (pa : Option Addr) : Array Value := #[.slice none 0 0, .int .i64 1, .string ⟨#[104, 105, 116, 115]⟩, .int .i64 1, .int .i64 3, .string ⟨#[]⟩, .slice pa 2 2, .int .i64 4, .string ⟨#[113]⟩, .int .i64 6, .int .i64 0, .string ⟨#[]⟩]
theorem rq_two {W : World} {b : Nat} {pa : Option Addr} (h : W.heap[b]? = some (.cells (twoC pa) 34 (0, 0))) (hp : Ki.Rp W pa 2 popO.p) : Rq W (some ⟨b, 0, none⟩) [addO, popO] := by
  intro i o ho
  have c := fun k v (hv : (twoC pa)[k]? = some v) => (cell_of_row _ _ k _ 34 (0, 0) h).trans hv
  match i, ho with
  | 0, ho => cases ho; exact ⟨b, 0, none, 0, rfl, rp_nil W, c 0 _ rfl, c 1 _ rfl, c 2 _ rfl, c 3 _ rfl, c 4 _ rfl, c 5 _ rfl⟩
  | 1, ho => cases ho; exact ⟨b, 0, pa, 2, rfl, hp, c 6 _ rfl, c 7 _ rfl, c 8 _ rfl, c 9 _ rfl, c 10 _ rfl, c 11 _ rfl⟩
theorem kn_t2 (W : World) (ao : Option Addr) (c : Nat) (hr : Rq W ao [addO, popO]) (hE : EnvO W) : Calls Tryz.prog 18 #[.slice ao 2 c] W fun e w' => e = .returned (.tuple #[.string knS, .int .i64 0]) ∧ Below W.heap.size W w' := by
  have h := textAllP_any (c := c) [addO, popO] hr i64_two hE (by decide)
  have he : txW' [addO, popO] = knS := by unfold txW'; rw [if_pos wrong_two, kn_text]
  rw [he, wrong_two] at h
  exact h
theorem kn_t0 (W : World) (hE : EnvO W) : Calls Tryz.prog 18 #[.slice none 0 0] W fun e w' => e = .returned (.tuple #[.string ⟨#[46]⟩, .int .i64 0]) ∧ Below W.heap.size W w' := by
  have h := textAllP_any (c := 0) [] (Rq.nil W none) (by simp) hE (by decide)
  have hw : wrongL [] = 0 := by kernel_rfl
  have he : txW' [] = ⟨#[46]⟩ := by unfold txW'; rw [if_pos hw]; rfl
  rw [he, hw] at h
  exact h
theorem kn_n (W : World) (hE : EnvO W) : Calls Tryz.prog 34 #[.string ⟨#[97, 100, 100, 32, 47, 32, 104, 105, 116, 115, 32, 48, 51]⟩] W fun e w' => ∃ pa pc, e = .returned (.tuple #[.agg #[.slice pa 0 pc, .int .i64 0, .string ⟨#[]⟩, .int .i64 0, .int .i64 0, .string ⟨#[]⟩], .int .i64 4]) ∧ Below W.heap.size W w' := by
  have h := parse34_any ⟨#[97, 100, 100, 32, 47, 32, 104, 105, 116, 115, 32, 48, 51]⟩ W (by decide) hE (.inl (by kernel_rfl))
  rw [kn_no] at h
  refine h.mono ?_
  rintro e w' ⟨pa, pc, rfl, -, hb⟩
  exact ⟨pa, pc, rfl, hb⟩
theorem kn_pieces : piecesA knS = [⟨#[97, 100, 100, 32, 47, 32, 104, 105, 116, 115, 32, 51]⟩, ⟨#[112, 111, 112, 32, 47, 97, 47, 98, 32, 113]⟩] := by kernel_rfl
theorem kn_l (W : World) (hE : EnvO W) : Calls Tryz.prog 36 #[.string knS] W fun e w' => ∃ a c, e = .returned (.tuple #[.slice a 2 c, .int .i64 0]) ∧ Rq w' a [addO, popO] ∧ Below W.heap.size W w' := by
  have h := parseAll36_any knS W (by decide) hE (.inl (by rw [kn_pieces]; intro x hx; simp only [List.mem_cons, List.not_mem_nil, or_false] at hx; rcases hx with rfl | rfl <;> kernel_rfl))
  rw [kn_all] at h
  refine h.mono ?_
  rintro e w' ⟨v, rfl, xs, hx, ho, hb⟩
  obtain ⟨a, c, hv, hr, -, -, -⟩ := ho.shape
  have hl : xs.length = 2 := by have := congrArg List.length hx; simpa using this
  rw [hl] at hv
  rw [hx] at hr
  subst hv
  exact ⟨a, c, rfl, hr, hb⟩
theorem kn_s1 (W : World) (pa qa : Option Addr) (h : Ki.Rp W pa 2 popO.p) (k : Ki.Rp W qa 2 popO.p) : Calls Tryz.prog 41 #[.agg #[.slice pa 2 2, .int .i64 5, .string ⟨#[113]⟩, .int .i64 6, .int .i64 0, .string ⟨#[]⟩], popV qa] W fun e w' => e = .returned (.bool false) ∧ Below W.heap.size W w' := by
  have := same41_any (pc := 2) (qc := 2) ⟨popO.p, 5, popO.s, popO.d, popO.n, popO.t⟩ popO h.rs k.rs (by decide) (by decide)
  have he : sameO ⟨popO.p, 5, popO.s, popO.d, popO.n, popO.t⟩ popO = false := by kernel_rfl
  rw [he] at this
  exact this
theorem kn_s2 (W : World) (pa qa : Option Addr) (h : Ki.Rp W pa 2 popO.p) (k : Ki.Rp W qa 2 popO.p) : Calls Tryz.prog 41 #[popV pa, popV qa] W fun e w' => e = .returned (.bool true) ∧ Below W.heap.size W w' := by
  have := same41_any (pc := 2) (qc := 2) popO popO h.rs k.rs (by decide) (by decide)
  rw [(sameO_iff popO popO).2 rfl] at this
  exact this
theorem kn_q (W : World) (a b : Option Addr) (c d : Nat) (h : Rq W a [addO, popO]) (k : Rq W b [addO, popO]) : Calls Tryz.prog 20 #[.slice a 2 c, .slice b 2 d] W fun e w' => e = .returned (.bool true) ∧ Below W.heap.size W w' := by
  have hp : ∀ o ∈ [addO, popO], o.p.length ≤ 1000000 := by
    intro o ho
    simp only [List.mem_cons, List.not_mem_nil, or_false] at ho
    rcases ho with rfl | rfl <;> decide
  have := same20_any (c := c) (d := d) [addO, popO] [addO, popO] h k (by decide) hp hp
  rw [(sameL_iff _ _).2 rfl] at this
  exact this
theorem up {w a b : World} (h : Below w.heap.size w a) (k : Below a.heap.size a b) : Below w.heap.size w b := h.trans (k.mono h.size)

set_option maxHeartbeats 8000000 in
set_option maxRecDepth 100000 in
theorem known9_any {w : World} (hE : EnvO w) : Calls Tryz.prog 9 #[] w fun e w' => e = .returned (.bool true) ∧ Below w.heap.size w w' := by
  have kAdd : ∀ W, Calls Tryz.prog 43 #[] W fun e w' => e = .returned addV ∧ Below W.heap.size W w' := fun W => add43_any W
  have kPop : ∀ W, Calls Tryz.prog 42 #[] W fun e w' => ∃ pa, e = .returned (popV pa) ∧ Ki.Rp w' pa 2 popO.p ∧ Below W.heap.size W w' := fun W => pop42_any W
  have HE := hide hE
  clear hE
  have kA := fun W => kn_a W
  have kP := fun W => kn_p W
  have kS1 := fun W => kn_s1 W
  have kS2 := fun W => kn_s2 W
  have k14 := fun n W => num14_any n W
  go_enter Tryz.func9, Tryz.ntmps9
  go_upto_region 2 with (first
    | (go_at_call 11; refine (kA _ (HE.out.below D0.out).tabs).mono ?_; rintro e w1 ⟨a1, c1, rfl, r1, d1⟩; have D1 := hide (up D0.out d1); have R1 := hide r1; clear d1 r1 D0)
    | (go_at_call 43; refine (kAdd _).mono ?_; rintro e w0 ⟨rfl, d0⟩; have D0 := hide d0; clear d0))
  go_upto_region 3 with (first
    | (go_at_call 11; refine (kP _ pb HPb.out ((HE.out.below D1.out).below D2.out).tabs).mono ?_; rintro e w3 ⟨a3, c3, rfl, r3, d3⟩; have D3 := hide (up (up D1.out D2.out) d3); have R3 := hide (And.intro ((R1.out.below D2.out).below d3) r3); clear d3 r3 D1 D2 R1 HPb)
    | (go_at_call 42; refine (kPop _).mono ?_; rintro e w2 ⟨pb, rfl, rp, d2⟩; have D2 := hide d2; have HPb := hide rp; clear d2 rp))
  go_upto_region 4 with (first
    | (go_at_call 18; refine (kn_t2 _ _ 2 (rq_two (heap_alloc_new w5 (.cells (twoC pd) 34)) (HPd.out.below ((Below.refl _ w5).alloc (Nat.le_refl _) _))) (HE.out.below (up D5.out ((Below.refl _ w5).alloc (Nat.le_refl _) _)))).mono ?_; rintro e w6 ⟨rfl, d6⟩; have D6 := hide (up (up D5.out ((Below.refl _ w5).alloc (Nat.le_refl _) _)) d6); have R6 := hide (And.intro ((R5.out.1.below ((Below.refl _ w5).alloc (Nat.le_refl _) _)).below d6) ((R5.out.2.below ((Below.refl _ w5).alloc (Nat.le_refl _) _)).below d6)); clear d6 D5 R5 HPd)
    | (go_at_call 42; refine (kPop _).mono ?_; rintro e w5 ⟨pd, rfl, rp, d5⟩; have D5 := hide (up D4.out d5); have R5 := hide (And.intro (R4.out.1.below d5) (R4.out.2.below d5)); have HPd := hide rp; clear d5 rp D4 R4)
    | (go_at_call 43; refine (kAdd _).mono ?_; rintro e w4 ⟨rfl, d4⟩; have D4 := hide (up D3.out d4); have R4 := hide (And.intro (R3.out.1.below d4) (R3.out.2.below d4)); clear d4 D3 R3))
  go_upto_region 5 with (go_at_call 18; refine (kn_t0 _ (HE.out.below D6.out)).mono ?_; rintro e wa ⟨rfl, da⟩; have Da := hide (up D6.out da); have Ra := hide (And.intro (R6.out.1.below da) (R6.out.2.below da)); clear da D6 R6)
  go_upto_region 6 with (go_at_call 34; refine (kn_n _ (HE.out.below Da.out)).mono ?_; rintro e wb ⟨qb, cb, rfl, db⟩; have Db := hide (up Da.out db); have Rb := hide (And.intro (Ra.out.1.below db) (Ra.out.2.below db)); clear db Da Ra)
  obtain ⟨wc, hwc⟩ : ∃ q, q = wb.alloc (.cells #[.slice qb 0 cb, .int .i64 0, .string ⟨#[]⟩, .int .i64 0, .int .i64 0, .string ⟨#[]⟩] 34) := ⟨_, rfl⟩
  rw [← hwc]
  have dc : Below wb.heap.size wb wc := by rw [hwc]; exact (Below.refl _ _).alloc (Nat.le_refl _) _
  have Dc := hide (up Db.out dc)
  have Rc := hide (And.intro (Rb.out.1.below dc) (Rb.out.2.below dc))
  clear dc hwc Db Rb
  go_upto_region 7 with (go_at_call 36; refine (kn_l _ (HE.out.below Dc.out)).mono ?_; rintro e wd ⟨al, cl, rfl, rq, dd⟩; have Dd := hide (up Dc.out dd); have Rd' := hide (And.intro (Rc.out.1.below dd) (And.intro (Rc.out.2.below dd) rq)); clear dd rq Dc Rc)
  go_upto_region 9 with (go_at_call 42; refine (kPop _).mono ?_; rintro e we ⟨p7, rfl, rp, de⟩; have De := hide (up Dd.out de); have Re := hide (And.intro (Rd'.out.1.below de) (And.intro (Rd'.out.2.1.below de) (Rd'.out.2.2.below de))); have HP7 := hide rp; clear de rp Dd Rd')
  obtain ⟨w8, hw8⟩ : ∃ q, q = we.alloc (.cells #[.slice p7 2 2, .int .i64 5, .string ⟨#[113]⟩, .int .i64 6, .int .i64 0, .string ⟨#[]⟩] 34) := ⟨_, rfl⟩
  rw [← hw8]
  have d8 : Below we.heap.size we w8 := by rw [hw8]; exact (Below.refl _ _).alloc (Nat.le_refl _) _
  have m8 : w8.heap[we.heap.size]? = some (.cells #[.slice p7 2 2, .int .i64 5, .string ⟨#[113]⟩, .int .i64 6, .int .i64 0, .string ⟨#[]⟩] 34 (0, 0)) := by rw [hw8]; exact heap_alloc_new _ _
  obtain ⟨B13, hB13⟩ : ∃ q, q = we.heap.size := ⟨_, rfl⟩
  rw [← hB13] at m8 ⊢
  have D8 := hide (up De.out d8)
  have R8 := hide (And.intro (Re.out.1.below d8) (And.intro (Re.out.2.1.below d8) (Re.out.2.2.below d8)))
  have HR7 := hide (HP7.out.below d8)
  obtain ⟨⟨q0, q1, q2, q3, q4, q5⟩, -⟩ := blk6 m8
  clear m8 d8 hw8 hB13 De Re HP7
  have HS : Hid (∀ W, Below w8.heap.size w8 W → W.cell? ⟨B13, 0, none⟩ = some (.slice p7 2 2) ∧ W.cell? ⟨B13, 1, none⟩ = some (.int .i64 5) ∧ W.cell? ⟨B13, 2, none⟩ = some (.string ⟨#[113]⟩) ∧ W.cell? ⟨B13, 3, none⟩ = some (.int .i64 6) ∧ W.cell? ⟨B13, 4, none⟩ = some (.int .i64 0) ∧ W.cell? ⟨B13, 5, none⟩ = some (.string ⟨#[]⟩)) := hide (fun W hW => ⟨Ki.cell_stays q0 hW, Ki.cell_stays q1 hW, Ki.cell_stays q2 hW, Ki.cell_stays q3 hW, Ki.cell_stays q4 hW, Ki.cell_stays q5 hW⟩)
  refine wp_region_held_drew (S := fun w' => w'.cell? ⟨B13, 0, none⟩ = some (.slice p7 2 2) ∧ w'.cell? ⟨B13, 1, none⟩ = some (.int .i64 5) ∧ w'.cell? ⟨B13, 2, none⟩ = some (.string ⟨#[113]⟩) ∧ w'.cell? ⟨B13, 3, none⟩ = some (.int .i64 6) ∧ w'.cell? ⟨B13, 4, none⟩ = some (.int .i64 0) ∧ w'.cell? ⟨B13, 5, none⟩ = some (.string ⟨#[]⟩)) (by kernel_rfl) (HS.out _ (Below.refl _ _).drew) (fun hHeld => ?_)
  obtain ⟨Wd, hWd⟩ : ∃ q, q = w8.drew := ⟨_, rfl⟩
  have b0 : Below w8.heap.size w8 Wd := by rw [hWd]; exact (Below.refl _ _).drew
  rw [← hWd] at hHeld ⊢
  clear hWd q0 q1 q2 q3 q4 q5
  refine take_op (i := 0) (d := 46) (OP := Op.load 34 (Operand.tmp 13)) (T := 34) (v := ?vog1) rfl rfl rfl rfl (by kernel_rfl) (by kernel_rfl) (by kernel_rfl) (fun _ _ _ h => h) (by rfl) ?hog1 hHeld ?rog1
  case hog1 => (intro w' hSw; (try dsimp only at hSw); go_simp <;> with_reducible rfl)
  try simp only [Act.put, List.setIfInBounds_toArray, List.set_cons_zero, List.set_cons_succ]
  refine call_op (i := 1) (d := 47) (OP := Op.call { callee := Callee.value (Operand.func 42), args := #[], argTypes := #[] }) (T := 34) (f := 42) (args := #[]) rfl rfl rfl rfl (by kernel_rfl) (by rfl) (by go_simp) ?_
  refine (kPop _).mono ?_
  rintro e y1 ⟨pa1, rfl, ry1, dy1⟩
  have by1 := b0.trans (dy1.mono b0.size)
  have sy1 := HS.out y1 by1
  refine ⟨_, rfl, sy1, ?_⟩
  replace hHeld := sy1
  try simp only [Act.put, List.setIfInBounds_toArray, List.set_cons_zero, List.set_cons_succ]
  refine call_op (i := 2) (d := 48) (OP := Op.call { callee := Callee.value (Operand.func 41), args := #[Operand.tmp 46, Operand.tmp 47], argTypes := #[34, 34] }) (T := 4) (f := 41) (args := #[(.agg #[.slice p7 2 2, .int .i64 5, .string ⟨#[113]⟩, .int .i64 6, .int .i64 0, .string ⟨#[]⟩]), (.agg #[.slice pa1 2 2, .int .i64 4, .string ⟨#[113]⟩, .int .i64 6, .int .i64 0, .string ⟨#[]⟩])]) rfl rfl rfl rfl (by kernel_rfl) (by rfl) (by go_simp) ?_
  refine (kS1 y1 p7 pa1 (HR7.out.below (by1)) ry1).mono ?_
  rintro e y2 ⟨rfl, dy2⟩
  have by2 := by1.trans (dy2.mono by1.size)
  have sy2 := HS.out y2 by2
  refine ⟨_, rfl, sy2, ?_⟩
  replace hHeld := sy2
  try simp only [Act.put, List.setIfInBounds_toArray, List.set_cons_zero, List.set_cons_succ]
  refine take_op (i := 3) (d := 49) (OP := Op.move (Operand.tmp 48)) (T := 4) (v := ?vog2) rfl rfl rfl rfl (by kernel_rfl) (by kernel_rfl) (by kernel_rfl) (fun _ _ _ h => h) (by rfl) ?hog2 hHeld ?rog2
  case hog2 => (intro w' hSw; (try dsimp only at hSw); go_simp <;> with_reducible rfl)
  try simp only [Act.put, List.setIfInBounds_toArray, List.set_cons_zero, List.set_cons_succ]
  refine call_op (i := 4) (d := 50) (OP := Op.call { callee := Callee.value (Operand.func 42), args := #[], argTypes := #[] }) (T := 34) (f := 42) (args := #[]) rfl rfl rfl rfl (by kernel_rfl) (by rfl) (by go_simp) ?_
  refine (kPop _).mono ?_
  rintro e y3 ⟨pa3, rfl, ry3, dy3⟩
  have by3 := by2.trans (dy3.mono by2.size)
  have sy3 := HS.out y3 by3
  refine ⟨_, rfl, sy3, ?_⟩
  replace hHeld := sy3
  try simp only [Act.put, List.setIfInBounds_toArray, List.set_cons_zero, List.set_cons_succ]
  refine call_op (i := 5) (d := 51) (OP := Op.call { callee := Callee.value (Operand.func 42), args := #[], argTypes := #[] }) (T := 34) (f := 42) (args := #[]) rfl rfl rfl rfl (by kernel_rfl) (by rfl) (by go_simp) ?_
  refine (kPop _).mono ?_
  rintro e y4 ⟨pa4, rfl, ry4, dy4⟩
  have by4 := by3.trans (dy4.mono by3.size)
  have sy4 := HS.out y4 by4
  refine ⟨_, rfl, sy4, ?_⟩
  replace hHeld := sy4
  try simp only [Act.put, List.setIfInBounds_toArray, List.set_cons_zero, List.set_cons_succ]
  refine call_op (i := 6) (d := 52) (OP := Op.call { callee := Callee.value (Operand.func 41), args := #[Operand.tmp 50, Operand.tmp 51], argTypes := #[34, 34] }) (T := 4) (f := 41) (args := #[(.agg #[.slice pa3 2 2, .int .i64 4, .string ⟨#[113]⟩, .int .i64 6, .int .i64 0, .string ⟨#[]⟩]), (.agg #[.slice pa4 2 2, .int .i64 4, .string ⟨#[113]⟩, .int .i64 6, .int .i64 0, .string ⟨#[]⟩])]) rfl rfl rfl rfl (by kernel_rfl) (by rfl) (by go_simp) ?_
  refine (kS2 y4 pa3 pa4 (ry3.below dy4) ry4).mono ?_
  rintro e y5 ⟨rfl, dy5⟩
  have by5 := by4.trans (dy5.mono by4.size)
  have sy5 := HS.out y5 by5
  refine ⟨_, rfl, sy5, ?_⟩
  replace hHeld := sy5
  try simp only [Act.put, List.setIfInBounds_toArray, List.set_cons_zero, List.set_cons_succ]
  refine take_op (i := 7) (d := 53) (OP := Op.unOp UnOp.not 4 (Operand.tmp 52)) (T := 4) (v := ?vog3) rfl rfl rfl rfl (by kernel_rfl) (by kernel_rfl) (by kernel_rfl) (fun _ _ _ h => h) (by rfl) ?hog3 hHeld ?rog3
  case hog3 => (intro w' hSw; (try dsimp only at hSw); go_simp <;> with_reducible rfl)
  try simp only [Act.put, List.setIfInBounds_toArray, List.set_cons_zero, List.set_cons_succ]
  refine take_op (i := 8) (d := 54) (OP := Op.pick (Operand.tmp 49) (Operand.const (Value.bool true)) (Operand.tmp 53)) (T := 4) (v := ?vog4) rfl rfl rfl rfl (by kernel_rfl) (by kernel_rfl) (by kernel_rfl) (fun _ _ _ h => h) (by rfl) ?hog4 hHeld ?rog4
  case hog4 => (intro w' hSw; (try dsimp only at hSw); go_simp <;> with_reducible rfl)
  try simp only [Act.put, List.setIfInBounds_toArray, List.set_cons_zero, List.set_cons_succ]
  refine wpAnyH_done (by kernel_rfl) ?_ _
  have b5 := by5
  have hcv1 := conv_rd (cap := c1) (n := 8) (R8.out.1.below by5) rfl
  have hcv3 := conv_rd (cap := c3) (n := 8) (R8.out.2.1.below by5) rfl
  rw [show strOfNums [1, 0, 4, 104, 105, 116, 115, 6] = ⟨#[1, 0, 4, 104, 105, 116, 115, 6]⟩ from by kernel_rfl] at hcv1
  rw [show strOfNums [6, 2, 1, 97, 1, 98, 1, 113] = ⟨#[6, 2, 1, 97, 1, 98, 1, 113]⟩ from by kernel_rfl] at hcv3
  have hks : (knS.toList == [97, 100, 100, 32, 47, 32, 104, 105, 116, 115, 32, 51, 59, 32, 112, 111, 112, 32, 47, 97, 47, 98, 32, 113]) = true := by kernel_rfl
  have D5 := hide (up D8.out by5)
  have RQ := hide (R8.out.2.2.below by5)
  clear HS hHeld by1 by2 by3 by4 by5 b0 b5 sy1 sy2 sy3 sy4 sy5 dy1 dy2 dy3 dy4 dy5 ry1 ry3 ry4 kS1 kS2 D8 R8 HR7
  go_wp2_with (first
    | (go_at_call 20; refine (kn_q _ _ _ cl 2 (RQ3.out.below ((Below.refl _ x3).alloc (Nat.le_refl _) _)) (rq_two (heap_alloc_new x3 (.cells (twoC px) 34)) (HPx.out.below ((Below.refl _ x3).alloc (Nat.le_refl _) _)))).mono ?_; rintro e x4 ⟨rfl, d4⟩; have E4 := hide (up (up E3.out ((Below.refl _ x3).alloc (Nat.le_refl _) _)) d4); clear d4)
    | (go_at_call 42; refine (kPop _).mono ?_; rintro e x3 ⟨px, rfl, rp, d3⟩; have E3 := hide (up E2.out d3); have RQ3 := hide (RQ2.out.below d3); have HPx := hide rp; clear d3 rp E2 RQ2)
    | (go_at_call 43; refine (kAdd _).mono ?_; rintro e x2 ⟨rfl, d2⟩; have E2 := hide (up D5.out d2); have RQ2 := hide (RQ.out.below d2); clear d2 RQ D5)
    | (go_at_call 14; refine (k14 _ _).mono ?_; rintro e x1 ⟨rfl, hx1⟩; subst hx1))
  go_ret
  exact ⟨rfl, E4.out⟩
end Go.Proofs.YtpepgoelnagoaaaGreatDoor
namespace Go.Proofs.YtpepgoelnagoaaaGreatDoor
open Go.RowKit Go.Shelf
set_option linter.unusedSimpArgs false
set_option linter.unusedVariables false
attribute [local go_sem] Oper.semAt_some

theorem parse_pops : parseA popT = (pops 64, 0) := by
  unfold parseA
  rw [if_neg kp_dot.1, kp_pieces, if_pos]
  · unfold popsB pops
    rw [List.map_replicate, kp_one]
  · refine ⟨by unfold popsB; simp, fun x hx => ?_⟩
    rw [List.eq_of_mem_replicate hx, kp_one]
theorem parse_over : parseA popT2 = ([], 4) := by
  unfold parseA
  rw [if_neg kp_dot.2, kp_pieces2, if_neg]
  intro h
  have := h.1
  unfold popsB at this
  simp at this
theorem num_pops : ∀ x ∈ piecesA popT, numOk x = true := fun x hx => by
  rw [kp_pieces] at hx
  rw [List.eq_of_mem_replicate hx, kp_num]
theorem num_over : ∀ x ∈ piecesA popT2, numOk x = true := fun x hx => by
  rw [kp_pieces2] at hx
  rcases List.mem_append.1 hx with hx | hx
  · rw [List.eq_of_mem_replicate hx, kp_num]
  · simp only [List.mem_cons, List.not_mem_nil, or_false] at hx
    rw [hx, kp_num2]

theorem take26_nil (v : Value) (w : World) (h : ∀ W, Below w.heap.size w W → NoRdr W v) : Calls Tryz.prog 26 #[v] w fun e w' => e = .returned (.tuple #[.agg #[.slice none 0 0, .int .i64 0, .string ⟨#[]⟩, .int .i64 0, .int .i64 0, .string ⟨#[]⟩], .int .i64 1]) ∧ Below w.heap.size w w' := take26_no v w h

abbrev popC (pa : Option Addr) : Array Value := #[.slice pa 2 2, .int .i64 4, .string ⟨#[113]⟩, .int .i64 6, .int .i64 0, .string ⟨#[]⟩]
theorem pop42_nil (w : World) : Calls Tryz.prog 42 #[] w fun e w' => ∃ pa, e = .returned (.agg (popC pa)) ∧ Os w' w.heap.size (.slice pa 2 2) popO.p ∧ Below w.heap.size w w' := pop42o_any w
theorem push_pop {w w5 : World} {B : Nat} {v : Value} {l : List Ox} {pa : Option Addr} (h : Oq w B v l) (hB : B ≤ w.heap.size) (hb : Below w.heap.size w w5) (hos : Os w5 w.heap.size (.slice pa 2 2) popO.p) (hl : l.length ≤ 64) :
    ∃ v' w', (Builtin.append_ #[22, 22] 22 #[v, .slice (some ⟨w5.heap.size, 0, none⟩) 1 1]).run Tryz.prog (w5.alloc (.cells (popC pa) 34)) = .ok v' w' ∧ Oq w' B v' (l ++ [(popO, pa, 2)]) ∧ (l ≠ [] → Oq w' B v l ∧ Only (fun k => v.ownBlock = some k) w w') ∧ Below B w w' := by
  have d : Below w5.heap.size w5 (w5.alloc (.cells (popC pa) 34)) := (Below.refl _ _).alloc (Nat.le_refl _) _
  have hs := hb.size
  have hO := (h.below hb).below d
  have hp : Os (w5.alloc (.cells (popC pa) 34)) B (.slice pa 2 2) popO.p := row_lift (hos.below d) hB
  have hbd : Below B w (w5.alloc (.cells (popC pa) 34)) := (hb.mono hB).trans (d.mono (by omega))
  by_cases hne : l = []
  · obtain ⟨v', w', hr, h2, -, h4⟩ := push_op (x := (popO, pa, 2)) hO hp (by show (2 : Nat) ≤ 1000000; omega) (heap_alloc_new w5 (.cells (popC pa) 34)) (by omega) (by simp; omega)
    exact ⟨v', w', hr, h2, fun hn => absurd hne hn, hbd.trans h4⟩
  · obtain ⟨v', w', hr, h2, h3, h5, h4⟩ := push_keep (x := (popO, pa, 2)) hO hne hp (by show (2 : Nat) ≤ 1000000; omega) (heap_alloc_new w5 (.cells (popC pa) 34)) (by omega) (by simp; omega)
    exact ⟨v', w', hr, h2, fun _ => ⟨h3, (((Only.ofBelow hb).mono (fun _ _ e => e.elim)).trans (Only.ofBelow d) (fun _ _ e => e.elim)).trans h5 (fun _ _ e => e)⟩, hbd.trans h4⟩


abbrev zerC : Array Value := #[.slice none 0 0, .int .i64 0, .string ⟨#[]⟩, .int .i64 0, .int .i64 0, .string ⟨#[]⟩]
theorem push_zer {w : World} {B : Nat} {v : Value} {l : List Ox} (h : Oq w B v l) (hB : B ≤ w.heap.size) (hl : l.length ≤ 64) :
    ∃ v' w', (Builtin.append_ #[22, 22] 22 #[v, .slice (some ⟨w.heap.size, 0, none⟩) 1 1]).run Tryz.prog (w.alloc (.cells zerC 34)) = .ok v' w' ∧ Oq w' B v' (l ++ [(odZ, none, 0)]) ∧ Only (fun k => v.ownBlock = some k) w w' ∧ Below B w w' := by
  have d : Below w.heap.size w (w.alloc (.cells zerC 34)) := (Below.refl _ _).alloc (Nat.le_refl _) _
  obtain ⟨v', w', hr, h2, h3, h4⟩ := push_op (x := (odZ, none, 0)) (h.below d) (Os.nil _ _) (by show (0 : Nat) ≤ 1000000; omega) (heap_alloc_new w (.cells zerC 34)) (by omega) (by simp; omega)
  exact ⟨v', w', hr, h2, ((Only.ofBelow d).mono (fun _ _ e => e.elim)).trans (Only.ofGrown h3) (fun _ _ e => e), (d.mono hB).trans h4⟩
def popF : List Int := frA (pops 64)
theorem popF_len : popF.length = 513 := by kernel_rfl
theorem popF_u8 : popF.all (fun y => decide (0 ≤ y) && decide (y ≤ 255)) = true := by kernel_rfl
theorem pops_i64 : ∀ o ∈ pops 64, I64 o.n := fun o h => by rw [List.eq_of_mem_replicate h]; exact i64_pop
theorem pops_ok : ∀ o ∈ pops 64, chkO o = 0 ∧ I64 o.n := fun o h => by rw [List.eq_of_mem_replicate h]; exact ⟨chk_pop, i64_pop⟩
theorem pops_wrong : wrongL (pops 64) = 0 := by kernel_rfl
theorem pops_over : wrongL (pops 64 ++ [popO]) = 3 := by kernel_rfl
theorem pops_zero : wrongL (pops 64 ++ [odZ]) = 2 := by kernel_rfl
theorem pops_len : (pops 64).length = 64 := by kernel_rfl
theorem n_bytes (W : World) (a : Option Addr) (c : Nat) (hr : Rq W a (pops 64)) (hT : Tabs W) : Calls Tryz.prog 17 #[.slice a 64 c] W fun e w' => ∃ ab cb, e = .returned (.tuple #[.slice ab 513 cb, .int .i64 0]) ∧ Own 5 w' W.heap.size (.slice ab 513 cb) popF ∧ (ab = none → cb = 0) ∧ Below W.heap.size W w' := by
  have h := bytesAll_any (c := c) (pops 64) hr pops_i64 hT (by rw [pops_len]; omega)
  rw [pops_len] at h
  have hf : frW (pops 64) = popF := if_pos pops_wrong
  rw [hf, pops_wrong] at h
  refine h.mono ?_
  rintro e w' ⟨ab, cb, rfl, ho, hn, hb⟩
  rw [popF_len] at ho ⊢
  exact ⟨ab, cb, rfl, ho, hn, hb⟩
theorem n_read (W : World) (ab : Option Addr) (cb : Nat) (hr : Rd W ab popF) (hn : ab = none → cb = 0) (hE : EnvO W) : Calls Tryz.prog 24 #[.slice ab 513 cb] W fun e w' => ∃ a c, e = .returned (.tuple #[.slice a 64 c, .int .i64 0]) ∧ Below W.heap.size W w' := by
  have h := readAll24_any ab cb 513 popF W popF_len hr hn (by rw [popF_len]; omega) (U8.lit popF_u8) hE
  have hA : readA popF = (pops 64, 0) := readA_form (pops 64) (by rw [pops_len]; omega) pops_ok
  rw [hA] at h
  refine h.mono ?_
  rintro e w' ⟨v, rfl, ⟨xs, hx, ho⟩, hb⟩
  obtain ⟨a, c, hv, -⟩ := ho.shape
  have hl : xs.length = 64 := by have := congrArg List.length hx; simpa using this
  rw [hl] at hv
  subst hv
  exact ⟨a, c, rfl, hb⟩
theorem n_text (W : World) (a : Option Addr) (c : Nat) (hr : Rq W a (pops 64)) (hE : EnvO W) : Calls Tryz.prog 18 #[.slice a 64 c] W fun e w' => e = .returned (.tuple #[.string popT, .int .i64 0]) ∧ Below W.heap.size W w' := by
  have h := textAllP_any (c := c) (pops 64) hr pops_i64 hE (by rw [pops_len]; omega)
  rw [pops_len, pops_wrong] at h
  have hf : txW' (pops 64) = popT := if_pos pops_wrong
  rw [hf] at h
  exact h
theorem n_parse (W : World) (hE : EnvO W) : Calls Tryz.prog 36 #[.string popT] W fun e w' => ∃ a c, e = .returned (.tuple #[.slice a 64 c, .int .i64 0]) ∧ Below W.heap.size W w' := by
  have h := parseAll36_any popT W kp_size.1 hE (.inl num_pops)
  rw [parse_pops] at h
  refine h.mono ?_
  rintro e w' ⟨v, rfl, xs, hx, ho, hb⟩
  obtain ⟨a, c, hv, -⟩ := ho.shape
  have hl : xs.length = 64 := by have := congrArg List.length hx; simpa using this
  rw [hl] at hv
  subst hv
  exact ⟨a, c, rfl, hb⟩
theorem n_over (W : World) (a : Option Addr) (c : Nat) (hr : Rq W a (pops 64 ++ [popO])) (hT : Tabs W) : Calls Tryz.prog 17 #[.slice a 65 c] W fun e w' => ∃ ab cb, e = .returned (.tuple #[.slice ab 0 cb, .int .i64 3]) ∧ Below W.heap.size W w' := by
  have hl : (pops 64 ++ [popO]).length = 65 := by kernel_rfl
  have h := bytesAll_any (c := c) (pops 64 ++ [popO]) hr (fun o h => by
    rcases List.mem_append.1 h with h | h
    · exact pops_i64 o h
    · simp only [List.mem_cons, List.not_mem_nil, or_false] at h; rw [h]; exact i64_pop) hT (by rw [hl]; omega)
  have hf : frW (pops 64 ++ [popO]) = [] := if_neg (by rw [pops_over]; decide)
  rw [hl, hf, pops_over] at h
  refine h.mono ?_
  rintro e w' ⟨ab, cb, rfl, ho, hn, hb⟩
  exact ⟨ab, cb, rfl, hb⟩
theorem n_zero (W : World) (a : Option Addr) (c : Nat) (hr : Rq W a (pops 64 ++ [odZ])) (hE : EnvO W) : Calls Tryz.prog 18 #[.slice a 65 c] W fun e w' => e = .returned (.tuple #[.string ⟨#[]⟩, .int .i64 2]) ∧ Below W.heap.size W w' := by
  have hl : (pops 64 ++ [odZ]).length = 65 := by kernel_rfl
  have h := textAllP_any (c := c) (pops 64 ++ [odZ]) hr (fun o h => by
    rcases List.mem_append.1 h with h | h
    · exact pops_i64 o h
    · simp only [List.mem_cons, List.not_mem_nil, or_false] at h; rw [h]; exact ⟨by decide, by decide⟩) hE (by rw [hl]; omega)
  have hf : txW' (pops 64 ++ [odZ]) = ⟨#[]⟩ := if_neg (by rw [pops_zero]; decide)
  rw [hl, hf, pops_zero] at h
  exact h
theorem n_parse2 (W : World) (hE : EnvO W) : Calls Tryz.prog 36 #[.string popT2] W fun e w' => ∃ a c, e = .returned (.tuple #[.slice a 0 c, .int .i64 4]) ∧ Below W.heap.size W w' := by
  have h := parseAll36_any popT2 W kp_size.2 hE (.inl num_over)
  rw [parse_over] at h
  refine h.mono ?_
  rintro e w' ⟨v, rfl, xs, hx, ho, hb⟩
  obtain ⟨a, c, hv, -⟩ := ho.shape
  have hl : xs.length = 0 := by have := congrArg List.length hx; simpa using this
  rw [hl] at hv
  subst hv
  exact ⟨a, c, rfl, hb⟩
theorem n_read2 (W : World) (ab : Option Addr) (cb : Nat) (hr : Rd W ab (65 :: popF.drop 1)) (hn : ab = none → cb = 0) (hE : EnvO W) : Calls Tryz.prog 24 #[.slice ab 513 cb] W fun e w' => ∃ a c, e = .returned (.tuple #[.slice a 0 c, .int .i64 4]) ∧ Below W.heap.size W w' := by
  have hl : (65 :: popF.drop 1).length = 513 := by kernel_rfl
  have hu : (65 :: popF.drop 1).all (fun y => decide (0 ≤ y) && decide (y ≤ 255)) = true := by kernel_rfl
  have h := readAll24_any ab cb 513 (65 :: popF.drop 1) W hl hr hn (by rw [hl]; omega) (U8.lit hu) hE
  have hA : readA (65 :: popF.drop 1) = ([], 4) := by
    have := readA_over 65 (popF.drop 1) (by omega) (by omega)
    rw [Plain.numL_small (by omega)] at this
    exact this
  rw [hA] at h
  refine h.mono ?_
  rintro e w' ⟨v, rfl, ⟨xs, hx, ho⟩, hb⟩
  obtain ⟨a, c, hv, -⟩ := ho.shape
  have hl : xs.length = 0 := by have := congrArg List.length hx; simpa using this
  rw [hl] at hv
  subst hv
  exact ⟨a, c, rfl, hb⟩

theorem slice_from {w : World} {ao : Option Addr} {l : List Int} {n cap : Nat} (hr : Rd w ao l) (hl : l.length = n) (hi : 1 ≤ n) (hc : n ≤ cap) :
    ∃ A, (∀ w', (Instr.slice 26 (.slice ao n cap) (some (.int .i64 1)) none none).run Tryz.prog w' = .ok (.slice A (n - 1) (cap - 1)) w') ∧ Rd w A (l.drop 1) ∧ (A = none → cap - 1 = 0) := by
  cases ao with
  | none =>
    have := hr.1 rfl
    subst this
    simp at hl
    omega
  | some a =>
    refine ⟨if cap = 1 then some a else some (a.add (1 * 1)), fun w' => ?_, ?_, ?_⟩
    · have h1 : (0 : Int) ≤ 1 ∧ (1 : Int) ≤ (n : Int) := by omega
      have h2 : (0 : Int) ≤ (n : Int) ∧ (n : Int) ≤ (cap : Int) := by omega
      simp [Instr.slice, Instr.sliceBounds, Instr.sliceBound, asIntOf, run_underlying Tryz.underlying26, go_sem, hi, hc]
      intro h
      omega
    · by_cases hci : cap = 1
      · rw [if_pos hci]
        have : l.drop 1 = [] := List.drop_eq_nil_of_le (by omega)
        rw [this]; exact Rd.nil _ _
      · rw [if_neg hci]
        refine ⟨by simp, ?_⟩
        intro a' ha' k u hk
        cases ha'
        rw [u8s_get, List.getElem?_drop] at hk
        have := hr.2 a rfl (1 + k) u (by rw [u8s_get]; exact hk)
        rw [add_add]
        simpa using this
    · split <;> simp
theorem n_join {w12 : World} {B cb : Nat} {ab : Option Addr} (hown : Own 5 w12 B (.slice ab 513 cb) popF) :
    ∃ A, (∀ w', (Instr.slice 26 (.slice ab 513 cb) (some (.int .i64 1)) none none).run Tryz.prog w' = .ok (.slice A 512 (cb - 1)) w') ∧
      ∃ a' c' w', (Builtin.append_ #[26, 26] 26 #[.slice (some ⟨w12.heap.size, 0, none⟩) 1 1, .slice A 512 (cb - 1)]).run Tryz.prog (w12.alloc (.cells #[.int .u8 65] 5)) = .ok (.slice a' 513 c') w' ∧ Rd w' a' (65 :: popF.drop 1) ∧ (a' = none → c' = 0) ∧ Below w12.heap.size w12 w' := by
  have hcap := hown.cap.1
  rw [popF_len] at hcap
  obtain ⟨A, hsl, hrd, hA⟩ := slice_from hown.rd popF_len (by omega) hcap
  refine ⟨A, hsl, ?_⟩
  have d : Below w12.heap.size w12 (w12.alloc (.cells #[.int .u8 65] 5)) := (Below.refl _ _).alloc (Nat.le_refl _) _
  have h65 : Own 5 (w12.alloc (.cells #[.int .u8 65] 5)) w12.heap.size (.slice (some ⟨w12.heap.size, 0, none⟩) 1 1) [65] := ⟨rfl, .inr ⟨w12.heap.size, 1, _, rfl, Nat.le_refl _, heap_alloc_new _ _, Nat.le_refl _, by decide, rfl, rfl⟩⟩
  have hl : (popF.drop 1).length = 512 := by rw [List.length_drop, popF_len]
  obtain ⟨q, a', c', w', hq, hr, ho, hn, hb⟩ := app_let (p := [65]) (l := popF.drop 1) h65 hA (hrd.below d) (by rw [hl]; simp) (by simp)
  have hq2 : q = 65 :: popF.drop 1 := hq
  have hql : q.length = 513 := by rw [hq2, List.length_cons, hl]
  rw [hl, hql] at hr
  refine ⟨a', c', w', hr, ?_, hn, d.trans hb⟩
  have := ho.rd
  rw [hq2] at this
  exact this
end Go.Proofs.YtpepgoelnagoaaaGreatDoor
