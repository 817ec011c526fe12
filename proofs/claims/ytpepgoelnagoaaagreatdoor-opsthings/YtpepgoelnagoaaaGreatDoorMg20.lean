/-
  OPS: the document's Spoil 33: what it turns.
  OPS: OpsThings 5, its walk.
-/
import Derived.Test.YtpepgoelnagoaaaGreatDoorMg17
import Derived.Test.YtpepgoelnagoaaaGreatDoorRf39
import Derived.Test.YtpepgoelnagoaaaGreatDoorMg19
namespace Go.Proofs.YtpepgoelnagoaaaGreatDoor
open Go.RowKit Go.Shelf
set_option linter.unusedSimpArgs false
set_option linter.unusedVariables false
attribute [local go_sem] Oper.semAt_some

/-- The blocks of operations in a row lie below E. -/
def InB (E : Nat) (v : Value) (xs : List Ox) : Prop := (∀ j, v.ownBlock = some j → j < E) ∧ ∀ x ∈ xs, ∀ j, (Value.slice x.2.1 x.1.p.length x.2.2).ownBlock = some j → j < E
theorem Oq.inb {w : World} {B : Nat} {v : Value} {xs : List Ox} (h : Oq w B v xs) : InB w.heap.size v xs :=
  ⟨fun j hj => (World.ownsRow.lt h.row j hj).2, fun x hx j hj => (World.ownsRow.lt (h.path x hx) j hj).2⟩
theorem InB.mono {E E' : Nat} {v : Value} {xs : List Ox} (h : InB E v xs) (hE : E ≤ E') : InB E' v xs :=
  ⟨fun j hj => Nat.lt_of_lt_of_le (h.1 j hj) hE, fun x hx j hj => Nat.lt_of_lt_of_le (h.2 x hx j hj) hE⟩
structure SpS (w0 : World) (B E g cap : Nat) (xs : List Ox) (i : Nat) (W : World) : Prop where
  row : ∃ cur, W.heap[g]? = some (.cells cur 34 (0, 0)) ∧ ∀ i' x, i ≤ i' → xs[i']? = some x → ∀ j, j < 6 → cur[i' * 6 + j]? = (oxC x)[j]?
  path : ∀ x ∈ xs, ∀ a, x.2.1 = some a → ∃ gp cur, a = ⟨gp, 0, none⟩ ∧ W.heap[gp]? = some (.cells cur 9 (0, 0)) ∧ x.1.p.length ≤ cur.size ∧ B ≤ gp ∧ gp < E
  nop : ∀ x ∈ xs, x.2.1 = none → x.1.p.length = 0
  only : Only (fun j => B ≤ j ∧ j < E) w0 W
  lts : B ≤ g ∧ g < E
theorem SpS.mono {w0 : World} {B E g cap : Nat} {xs : List Ox} {i i2 : Nat} {W : World} (h : SpS w0 B E g cap xs i W) (hi : i ≤ i2) : SpS w0 B E g cap xs i2 W := by
  obtain ⟨⟨cur, h1, h2⟩, h3, h4, h5, h6⟩ := h
  exact ⟨⟨cur, h1, fun i' x hx => h2 i' x (Nat.le_trans hi hx)⟩, h3, h4, h5, h6⟩
theorem SpS.setg {w0 : World} {B E g cap : Nat} {xs : List Ox} {i : Nat} {W : World} (h : SpS w0 B E g cap xs i W) {off : Nat} {v : Value} (ho : off < i * 6) : SpS w0 B E g cap xs i (W.setCell ⟨g, off, none⟩ v) := by
  obtain ⟨⟨cur, h1, h2⟩, h3, h4, h5, h6⟩ := h
  obtain ⟨c, hon⟩ := Ki.set_one (i := off) v h1
  refine ⟨⟨_, c, fun i' x hi hx j hj => ?_⟩, fun x hx a ha => ?_, h4, h5.trans hon (fun j _ e => by subst e; exact h6), h6⟩
  · have hne : off ≠ i' * 6 + j := by
      have := Nat.mul_le_mul_right 6 hi
      omega
    rw [Array.getElem?_setIfInBounds_ne hne]
    exact h2 i' x hi hx j hj
  · obtain ⟨gp, cp, e, g1, g2, g3⟩ := h3 x hx a ha
    have hne : gp ≠ g := fun e => by
      rw [e, h1] at g1
      simp at g1
    exact ⟨gp, cp, e, (hon.block gp (Array.getElem?_eq_some_iff.1 g1).1 hne).trans g1, g2, g3⟩
theorem SpS.setp {w0 : World} {B E g cap : Nat} {xs : List Ox} {i : Nat} {W : World} (h : SpS w0 B E g cap xs i W) {x : Ox} {gp k : Nat} {v : Value} (hx : x ∈ xs) (ha : x.2.1 = some ⟨gp, 0, none⟩) : SpS w0 B E g cap xs i (W.setCell ⟨gp, k, none⟩ v) := by
  obtain ⟨⟨cur, h1, h2⟩, h3, h4, h5, h6⟩ := h
  obtain ⟨gp', cp, e, g1, g2, g3⟩ := h3 x hx _ ha
  simp only [Addr.mk.injEq, and_true] at e
  subst e
  have hne : g ≠ gp := fun e => by
    rw [← e, h1] at g1
    simp at g1
  obtain ⟨c, hon⟩ := Ki.set_one (i := k) v g1
  refine ⟨⟨cur, (hon.block g (Array.getElem?_eq_some_iff.1 h1).1 hne).trans h1, h2⟩, fun y hy a hya => ?_, h4, h5.trans hon (fun j _ e => by subst e; exact g3), h6⟩
  obtain ⟨gq, cq, e, q1, q2, q3⟩ := h3 y hy a hya
  by_cases hq : gq = gp
  · subst hq
    rw [g1] at q1
    simp only [Option.some.injEq, Obj.cells.injEq, and_true] at q1
    obtain ⟨rfl⟩ := q1
    exact ⟨gq, _, e, c, by simpa using q2, q3⟩
  · exact ⟨gq, cq, e, (hon.block gq (Array.getElem?_eq_some_iff.1 q1).1 hq).trans q1, q2, q3⟩
theorem SpS.cells {w0 : World} {B E g cap : Nat} {xs : List Ox} {i : Nat} {W : World} (h : SpS w0 B E g cap xs i W) {x : Ox} (hx : xs[i]? = some x) :
    (W.cell? ⟨g, i * 6, none⟩ = some (.slice x.2.1 x.1.p.length x.2.2) ∧ W.cell? ⟨g, i * 6 + 1, none⟩ = some (.int .i64 x.1.k) ∧ W.cell? ⟨g, i * 6 + 2, none⟩ = some (.string x.1.s) ∧ W.cell? ⟨g, i * 6 + 3, none⟩ = some (.int .i64 x.1.d) ∧ W.cell? ⟨g, i * 6 + 4, none⟩ = some (.int .i64 x.1.n) ∧ W.cell? ⟨g, i * 6 + 5, none⟩ = some (.string x.1.t)) ∧ (∀ j, W.frozen? ⟨g, j, none⟩ = false) := by
  obtain ⟨⟨cur, h1, h2⟩, -, -, -, -⟩ := h
  have q := fun j hj => h2 i x (Nat.le_refl _) hx j hj
  refine ⟨⟨?_, ?_, ?_, ?_, ?_, ?_⟩, fun j => frozen_of_row _ _ j _ 34 h1⟩
  · rw [cell_of_row _ _ _ _ 34 (0, 0) h1]; exact q 0 (by omega)
  · rw [cell_of_row _ _ _ _ 34 (0, 0) h1]; exact q 1 (by omega)
  · rw [cell_of_row _ _ _ _ 34 (0, 0) h1]; exact q 2 (by omega)
  · rw [cell_of_row _ _ _ _ 34 (0, 0) h1]; exact q 3 (by omega)
  · rw [cell_of_row _ _ _ _ 34 (0, 0) h1]; exact q 4 (by omega)
  · rw [cell_of_row _ _ _ _ 34 (0, 0) h1]; exact q 5 (by omega)
theorem SpS.pcell {w0 : World} {B E g cap : Nat} {xs : List Ox} {i : Nat} {W : World} (h : SpS w0 B E g cap xs i W) {x : Ox} (hx : x ∈ xs) {k : Nat} (hk : k < x.1.p.length) : ∃ gp u, x.2.1 = some ⟨gp, 0, none⟩ ∧ W.cell? ⟨gp, k, none⟩ = some u ∧ W.frozen? ⟨gp, k, none⟩ = false := by
  cases ha : x.2.1 with
  | none => have := h.nop x hx ha; omega
  | some a =>
    obtain ⟨gp, cur, e, g1, g2, -⟩ := h.path x hx a ha
    subst e
    refine ⟨gp, cur[k]'(by omega), rfl, ?_, frozen_of_row _ _ k _ 9 g1⟩
    rw [cell_of_row _ _ _ _ 9 (0, 0) g1, Array.getElem?_eq_getElem]
theorem Oq.sps {w : World} {B E : Nat} {v : Value} {xs : List Ox} (h : Oq w B v xs) (hE : InB E v xs) (hne : xs ≠ []) : ∃ g cap, v = .slice (some ⟨g, 0, none⟩) xs.length cap ∧ SpS w B E g cap xs 0 w := by
  rcases h.row.2 with ⟨-, h0⟩ | ⟨g, cap, cur, h1, h2, h3, h4, h5, h6, h7⟩
  · exact absurd (List.eq_nil_of_length_eq_zero h0) hne
  · refine ⟨g, cap, h1, ⟨cur, h3, fun i' x _ hx j hj => ?_⟩, fun x hx a ha => ?_, fun x hx ha => ?_, Only.refl _ _, h2, hE.1 g (by rw [h1]; rfl)⟩
    · have hi' : i' < xs.length := (List.getElem?_eq_some_iff.1 hx).1
      have := oxC_get xs i' j x hx hj
      rw [← h7, List.getElem?_take] at this
      rw [if_pos (by have := Nat.mul_le_mul_right 6 (show i' + 1 ≤ xs.length from hi'); omega)] at this
      simpa using this
    · rcases (h.path x hx).2 with ⟨q1, -⟩ | ⟨gp, cp, cup, q1, q2, q3, q4, q5, q6, q7⟩
      · rw [ha] at q1; simp at q1
      · rw [ha] at q1
        simp only [Value.slice.injEq, Option.some.injEq, true_and] at q1
        obtain ⟨rfl, rfl⟩ := q1
        exact ⟨gp, cup, rfl, q3, by omega, q2, hE.2 x hx gp (by rw [ha]; rfl)⟩
    · rcases (h.path x hx).2 with ⟨-, q2⟩ | ⟨gp, cp, cup, q1, -⟩
      · exact q2
      · rw [ha] at q1; simp at q1

set_option maxHeartbeats 4000000 in
set_option maxRecDepth 100000 in
theorem spoil33_any {w : World} {B E : Nat} {v : Value} {xs : List Ox} (h : Oq w B v xs) (hE : InB E v xs) (hl : xs.length ≤ 100000) : Calls Tryz.prog 33 #[v] w fun e w' => e = .returned (.tuple #[]) ∧ Only (fun j => B ≤ j ∧ j < E) w w' := by
  by_cases hne : xs = []
  · subst hne
    obtain ⟨ao, c, rfl, -, -, -, -⟩ := h.shape
    go_enter Tryz.func33, Tryz.ntmps33
    go_wp2
    go_loopw [2] (fun v2 wr => v2 = .int .i64 0 ∧ wr = w) (fun _ _ => 0)
    case atStart => exact ⟨rfl, rfl⟩
    case round =>
      obtain ⟨rfl, rfl⟩ := hrel
      go_wp2
      refine bodyPost_end (results_none rfl _ _ _) rfl ?_
      exact ⟨rfl, Only.refl _ _⟩
  · obtain ⟨g, cap, rfl, hs⟩ := h.sps hE hne
    have hpl := h.plen
    have HS := hide hs
    clear hs h hE hne
    go_enter Tryz.func33, Tryz.ntmps33
    go_wp2
    go_loopw [2, 3] (fun v2 v3 wr => ∃ i : Nat, v2 = .int .i64 (i : Nat) ∧ i ≤ xs.length ∧ Hid (SpS w B E g cap xs i wr)) (fun v2 _ _ => xs.length - (intOf v2).toNat)
    case atStart => exact ⟨0, rfl, Nat.zero_le _, HS⟩
    case round =>
      obtain ⟨i, rfl, hi, HI⟩ := hrel
      by_cases hlt : i < xs.length
      · have z : (i : Int) < (xs.length : Int) := by omega
        obtain ⟨x, hx⟩ : ∃ r, xs[i]? = some r := ⟨_, List.getElem?_eq_getElem hlt⟩
        have hxm := List.mem_of_getElem? hx
        have hN := hpl x hxm
        obtain ⟨N, hNe⟩ : ∃ r, r = x.1.p.length := ⟨_, rfl⟩
        have HX := hide (And.intro hx (And.intro hxm hNe))
        rw [← hNe] at hN
        clear hx hxm hNe
        go_wp2
        go_loopw [3] (fun v3 wq => ∃ k : Nat, v3 = .int .i64 (k : Nat) ∧ k ≤ N ∧ Hid (SpS w B E g cap xs i wq)) (fun v3 _ => N - (intOf v3).toNat)
        case atStart => exact ⟨0, rfl, Nat.zero_le _, HI⟩
        case round =>
          obtain ⟨k, rfl, hk, HK⟩ := hrel
          obtain ⟨⟨c0, c1, c2, c3, c4, c5⟩, hf⟩ := HK.out.cells HX.out.1
          rw [← HX.out.2.2] at c0
          by_cases hkn : k < N
          · obtain ⟨gp, u, ha, p0, p1⟩ := HK.out.pcell HX.out.2.1 (k := k) (by rw [← HX.out.2.2]; exact hkn)
            rw [ha] at c0
            have HA := hide ha
            clear ha c1 c2 c3 c4 c5 hf
            go_wp2
            go_roundw
            case rel => exact ⟨k + 1, by go_num, by omega, hide (HK.out.setp HX.out.2.1 HA.out)⟩
            case measure => simp [intOf]; omega
          · have f0 := hf (i * 6)
            have f1 := hf (i * 6 + 1)
            have f2 := hf (i * 6 + 2)
            have f3 := hf (i * 6 + 3)
            have f4 := hf (i * 6 + 4)
            have f5 := hf (i * 6 + 5)
            clear hf
            go_wp2
            go_roundw
            case rel => exact ⟨i + 1, by go_num, by omega, hide (((((((HK.out.mono (Nat.le_succ i)).setg (by omega)).setg (by omega)).setg (by omega)).setg (by omega)).setg (by omega)).setg (by omega))⟩
            case measure => simp [intOf]; omega
      · go_wp2
        refine bodyPost_end (results_none rfl _ _ _) rfl ?_
        exact ⟨rfl, HI.out.only⟩
end Go.Proofs.YtpepgoelnagoaaaGreatDoor
namespace Go.Proofs.YtpepgoelnagoaaaGreatDoor
open Go.RowKit Go.Shelf
set_option linter.unusedSimpArgs false
set_option linter.unusedVariables false
attribute [local go_sem] Oper.semAt_some

theorem Rq.only {w w' : World} {ao : Option Addr} {l : List Od} {D : Nat → Prop} (h : Rq w ao l) (ho : Below w.heap.size w w') : Rq w' ao l := h.below ho

set_option maxHeartbeats 16000000 in
set_option maxRecDepth 100000 in
theorem things_walk {w : World} {ao : Option Addr} {c : Nat} (l : List Od) (h : Rq w ao l) (hs : ∀ o ∈ l, (∀ s ∈ o.p, s.size ≤ 9223372036854775807) ∧ o.s.size ≤ 9223372036854775807) (hE : EnvO w) : Calls Tryz.prog 5 #[.slice ao l.length c] w fun e w' => e = .returned (.bool true) ∧ Below w.heap.size w w' := by
  have k8 := small8_any ao c l w h
  have k9 : ∀ W, Below w.heap.size w W → Calls Tryz.prog 9 #[] W fun e w' => e = .returned (.bool true) ∧ Below W.heap.size W w' := fun W hW => known9_any (hE.below hW)
  go_enter Tryz.func5, Tryz.ntmps5
  go_upto_region 1 with fail
  go_wp2_with fail
  refine k8.mono ?_
  rintro e w1 ⟨b, rfl, hb, d1⟩
  have D1 := hide d1
  clear d1 k8
  cases b
  · clear hb
    go_wp2_with (go_at_call 9; refine (k9 _ D1.out).mono ?_; rintro e w2 ⟨rfl, d2⟩; have D2 := hide d2; clear d2)
    go_ret
    exact ⟨rfl, up D1.out D2.out⟩
  have hsm := hb rfl
  clear hb
  have hplen := hsm.plen
  have k10 := copy10_any ao c l w1 (h.below D1.out) (by have := hsm.len; omega) hplen
  go_upto_region 4 with (go_at_call 10; refine k10.mono ?_; rintro e w2 ⟨v, rfl, xs, hxs, ho, d2⟩; have D2 := hide (up D1.out d2); have D12 := hide d2; have HXS := hide (And.intro hxs ho); clear hxs ho d2 k10)
  obtain ⟨a3, c3, rfl, hrq, -, -, -⟩ := HXS.out.2.shape
  rw [HXS.out.1] at hrq
  have hxl : xs.length = l.length := by have := congrArg List.length HXS.out.1; simpa using this
  rw [hxl]
  have hl120 := hsm.len
  have k38 := things38_any a3 c3 l w2 hrq (by omega) hplen
  have HRQ := hide hrq
  have HXL := hide hxl
  clear hrq hsm hxl
  go_upto_region 5 with (go_at_call 38; refine k38.mono ?_; rintro e w3 ⟨v1, rfl, R1, e1, q1, d3⟩; have D3 := hide d3; have H1 := hide (And.intro e1 q1); clear e1 q1 d3 k38)
  obtain ⟨a4, c4, rfl⟩ := H1.out.2.form
  have k39 := refThings_any ao c l w3 (h.below (up D2.out D3.out)) (by omega) hplen hs
  go_upto_region 6 with (go_at_call 39; refine k39.mono ?_; rintro e w4 ⟨v2, rfl, R2, e2, q2, d4⟩; have D4 := hide d4; have H2 := hide (And.intro e2 q2); clear e2 q2 d4 k39)
  obtain ⟨a5, c5, rfl⟩ := H2.out.2.form
  have hRR : R1.map (·.1) = R2.map (·.1) := by rw [H1.out.1, H2.out.1]
  have hRl : R1.length = R2.length := by have := congrArg List.length hRR; simpa using this
  have hR1 : R1.length ≤ 120 := by
    have h1 := congrArg List.length H1.out.1
    have h2 := insAllP_len (l.map plOf) []
    rw [List.length_map] at h1
    rw [List.length_map, List.length_nil] at h2
    omega
  rw [← hRl]
  have D24 := hide (up D3.out D4.out)
  have k20 := same20_any (c := c3) (d := c) l l (HRQ.out.below D24.out) (h.below (up D2.out D24.out)) (by omega) hplen hplen
  rw [(sameL_iff l l).2 rfl] at k20
  have HRR := hide (And.intro hRR hRl)
  clear hRR hRl
  go_upto_region 8 with (go_at_call 20; refine k20.mono ?_; rintro e w5 ⟨rfl, d5⟩; have D5 := hide d5; clear d5 k20)
  have D25 := hide (up D24.out D5.out)
  have hin := HXS.out.2.inb
  have k33 := spoil33_any (E := w2.heap.size) (HXS.out.2.below D25.out) hin (by have := HXL.out; omega)
  rw [HXL.out] at k33
  clear hin
  go_upto_region 9 with (go_at_call 33; refine k33.mono ?_; rintro e w6 ⟨rfl, o6⟩; have O6 := hide o6; clear o6 k33)
  have hD6 : Below w.heap.size w w6 := (up (up D2.out D25.out) ((Below.refl _ _))).trans (O6.out.below ((up D2.out D25.out).size) (fun k hk => Nat.le_trans D1.out.size hk.1))
  have hP1 : Pq w6 w2.heap.size (.slice a4 R1.length c4) R1 := ((H1.out.2.below D4.out).below D5.out).only O6.out (fun k hk hd => by omega)
  have hP2 : Pq w6 w3.heap.size (.slice a5 R2.length c5) R2 := (H2.out.2.below D5.out).only O6.out (fun k hk hd => by have := D3.out.size; omega)
  rw [← HRR.out.2] at hP2
  have hsy : ∀ y ∈ R1, (∀ s ∈ y.1.1, s.size ≤ 9223372036854775807) ∧ y.1.2.2.size ≤ 9223372036854775807 := fun y hy => by
    have h1 : y.1 ∈ R1.map (·.1) := List.mem_map_of_mem hy
    rw [H1.out.1] at h1
    rcases ((insAllP_ok (l.map plOf) [] (by simp [SSp])).2 y.1).1 h1 with h2 | h2
    · cases h2
    · obtain ⟨o2, ho2, e⟩ := List.mem_map.1 h2
      have := hs o2 ho2
      rw [← e]
      exact this
  have HQ := hide (And.intro hP1 (And.intro hP2 hsy))
  have HD := hide hD6
  have HL := hide (And.intro (h.below hD6) hplen)
  clear hP1 hP2 hsy hD6 h hplen hs hE H1 H2 D24 D25 D5 D4 D3 O6 HXS HRQ HXL
  go_wp2
  go_loopw [6] (fun v6 wr => ∃ i : Nat, v6 = .int .i64 (i : Nat) ∧ i ≤ R1.length ∧ Hid (Below w6.heap.size w6 wr)) (fun v6 _ => R1.length - (intOf v6).toNat)
  case atStart => exact ⟨0, rfl, Nat.zero_le _, hide (Below.refl _ _)⟩
  case round =>
    obtain ⟨i, rfl, hi, HI⟩ := hrel
    by_cases hlt : i < R1.length
    · have hz : (i : Int) < (R1.length : Int) := by omega
      obtain ⟨x, hx⟩ : ∃ r, R1[i]? = some r := ⟨_, List.getElem?_eq_getElem hlt⟩
      obtain ⟨y, hy⟩ : ∃ r, R2[i]? = some r := ⟨_, List.getElem?_eq_getElem (by rw [← HRR.out.2]; exact hlt)⟩
      have hxy : x.1 = y.1 := by
        have := congrArg (fun q => q[i]?) HRR.out.1
        simp only [List.getElem?_map, hx, hy] at this
        simpa using this
      obtain ⟨ro, hsp, -, -, -⟩ := (HQ.out.1.row.below HI.out).rpo
      obtain ⟨g, og, rfl, c0, c1, c2⟩ := ro.at hsp hx
      obtain ⟨ro2, hsp2, -, -, -⟩ := (HQ.out.2.1.row.below HI.out).rpo
      obtain ⟨g2, og2, rfl, d0, d1, d2⟩ := ro2.at hsp2 hy
      have hsx := HQ.out.2.2 x (List.mem_of_getElem? hx)
      have hxl := HQ.out.1.plen x (List.mem_of_getElem? hx)
      have HX := hide (And.intro hx (And.intro hy hxy))
      clear hx hy hxy ro hsp ro2 hsp2
      go_upto_region 12 with fail
      refine wp_region_held_drew (S := fun w' => (w'.cell? ⟨g, og + i * 3, none⟩ = some (.slice x.2.1 x.1.1.length x.2.2) ∧ w'.cell? ⟨g, og + i * 3 + 1, none⟩ = some (.int .i64 x.1.2.1) ∧ w'.cell? ⟨g, og + i * 3 + 2, none⟩ = some (.string x.1.2.2)) ∧ (w'.cell? ⟨g2, og2 + i * 3, none⟩ = some (.slice y.2.1 y.1.1.length y.2.2) ∧ w'.cell? ⟨g2, og2 + i * 3 + 1, none⟩ = some (.int .i64 y.1.2.1) ∧ w'.cell? ⟨g2, og2 + i * 3 + 2, none⟩ = some (.string y.1.2.2))) (by kernel_rfl) ⟨⟨c0, c1, c2⟩, d0, d1, d2⟩ (fun hHeld => ?_)
      have hbd : Below w6.heap.size w6 wr.drew := HI.out.drew
      obtain ⟨Wd, hWd⟩ : ∃ r, r = wr.drew := ⟨_, rfl⟩
      rw [← hWd] at hHeld hbd ⊢
      clear hWd c0 c1 c2 d0 d1 d2
      have k40 : Calls Tryz.prog 40 #[plV x, plV y] Wd fun e w' => e = .returned (.int .i64 (cfL x.1 y.1)) ∧ Below Wd.heap.size Wd w' := refCmpPlace_any (c := x.2.2) (d := y.2.2) x.1.2.1 y.1.2.1 x.1.2.2 y.1.2.2 ((HQ.out.1.path x (List.mem_of_getElem? HX.out.1)).below hbd).rsq ((HQ.out.2.1.path y (List.mem_of_getElem? HX.out.2.1)).below hbd).rsq (by omega) hsx.1 hsx.2
      rw [cfL_eq.2 HX.out.2.2] at k40
      refine take_op (i := 0) (d := 38) (OP := Op.move (Operand.tmp 4)) (T := 70) (v := ?vog1) rfl rfl rfl rfl (by kernel_rfl) (by kernel_rfl) (by kernel_rfl) (fun _ _ _ h => h) (by rfl) ?hog1 hHeld ?rog1
      case hog1 => (intro w' hSw; (try dsimp only at hSw); go_simp <;> with_reducible rfl)
      try simp only [Act.put, List.setIfInBounds_toArray, List.set_cons_zero, List.set_cons_succ]
      refine take_op (i := 1) (d := 39) (OP := Op.move (Operand.tmp 6)) (T := 3) (v := ?vog2) rfl rfl rfl rfl (by kernel_rfl) (by kernel_rfl) (by kernel_rfl) (fun _ _ _ h => h) (by rfl) ?hog2 hHeld ?rog2
      case hog2 => (intro w' hSw; (try dsimp only at hSw); go_simp <;> with_reducible rfl)
      try simp only [Act.put, List.setIfInBounds_toArray, List.set_cons_zero, List.set_cons_succ]
      refine take_op (i := 2) (d := 40) (OP := Op.indexAddr 70 (Operand.tmp 38) (Operand.tmp 39)) (T := 0) (v := (.pointer (some ⟨g, og + i * 3, none⟩))) rfl rfl rfl rfl (by kernel_rfl) (by kernel_rfl) (by kernel_rfl) (fun _ _ _ h => h) (by rfl) ?hog3 hHeld ?rog3
      case hog3 => (intro w' hSw; exact exec_ixP rfl rfl hz)
      try simp only [Act.put, List.setIfInBounds_toArray, List.set_cons_zero, List.set_cons_succ]
      refine take_op (i := 3) (d := 41) (OP := Op.load 75 (Operand.tmp 40)) (T := 75) (v := ?vog4) rfl rfl rfl rfl (by kernel_rfl) (by kernel_rfl) (by kernel_rfl) (fun _ _ _ h => h) (by rfl) ?hog4 hHeld ?rog4
      case hog4 => (intro w' hSw; (try dsimp only at hSw); go_simp <;> with_reducible rfl)
      try simp only [Act.put, List.setIfInBounds_toArray, List.set_cons_zero, List.set_cons_succ]
      refine take_op (i := 4) (d := 42) (OP := Op.move (Operand.tmp 5)) (T := 70) (v := ?vog5) rfl rfl rfl rfl (by kernel_rfl) (by kernel_rfl) (by kernel_rfl) (fun _ _ _ h => h) (by rfl) ?hog5 hHeld ?rog5
      case hog5 => (intro w' hSw; (try dsimp only at hSw); go_simp <;> with_reducible rfl)
      try simp only [Act.put, List.setIfInBounds_toArray, List.set_cons_zero, List.set_cons_succ]
      refine take_op (i := 5) (d := 43) (OP := Op.move (Operand.tmp 6)) (T := 3) (v := ?vog6) rfl rfl rfl rfl (by kernel_rfl) (by kernel_rfl) (by kernel_rfl) (fun _ _ _ h => h) (by rfl) ?hog6 hHeld ?rog6
      case hog6 => (intro w' hSw; (try dsimp only at hSw); go_simp <;> with_reducible rfl)
      try simp only [Act.put, List.setIfInBounds_toArray, List.set_cons_zero, List.set_cons_succ]
      refine take_op (i := 6) (d := 44) (OP := Op.indexAddr 70 (Operand.tmp 42) (Operand.tmp 43)) (T := 0) (v := (.pointer (some ⟨g2, og2 + i * 3, none⟩))) rfl rfl rfl rfl (by kernel_rfl) (by kernel_rfl) (by kernel_rfl) (fun _ _ _ h => h) (by rfl) ?hog7 hHeld ?rog7
      case hog7 => (intro w' hSw; exact exec_ixP rfl rfl hz)
      try simp only [Act.put, List.setIfInBounds_toArray, List.set_cons_zero, List.set_cons_succ]
      refine take_op (i := 7) (d := 45) (OP := Op.load 75 (Operand.tmp 44)) (T := 75) (v := ?vog8) rfl rfl rfl rfl (by kernel_rfl) (by kernel_rfl) (by kernel_rfl) (fun _ _ _ h => h) (by rfl) ?hog8 hHeld ?rog8
      case hog8 => (intro w' hSw; (try dsimp only at hSw); go_simp <;> with_reducible rfl)
      try simp only [Act.put, List.setIfInBounds_toArray, List.set_cons_zero, List.set_cons_succ]
      refine call_op (i := 8) (d := 46) (OP := Op.call { callee := Callee.value (Operand.func 40), args := #[Operand.tmp 41, Operand.tmp 45], argTypes := #[75, 75] }) (T := 3) (f := 40) (args := #[plV x, plV y]) rfl rfl rfl rfl (by kernel_rfl) (by rfl) (by go_simp) ?_
      refine k40.mono ?_
      rintro e y1 ⟨rfl, by1⟩
      have hb1 := hbd.trans (by1.mono hbd.size)
      have hh1 := And.intro (And.intro (Ki.cell_stays hHeld.1.1 by1) (And.intro (Ki.cell_stays hHeld.1.2.1 by1) (Ki.cell_stays hHeld.1.2.2 by1))) (And.intro (Ki.cell_stays hHeld.2.1 by1) (And.intro (Ki.cell_stays hHeld.2.2.1 by1) (Ki.cell_stays hHeld.2.2.2 by1)))
      refine ⟨_, rfl, hh1, ?_⟩
      replace hHeld := hh1
      try simp only [Act.put, List.setIfInBounds_toArray, List.set_cons_zero, List.set_cons_succ]
      refine take_op (i := 9) (d := 47) (OP := Op.binOp BinOp.neq 3 (Operand.tmp 46) (Operand.const (Value.int IntKind.i64 0)) 3) (T := 4) (v := (.bool false)) rfl rfl rfl rfl (by kernel_rfl) (by kernel_rfl) (by kernel_rfl) (fun _ _ _ h => h) (by rfl) ?hog9 hHeld ?rog9
      case hog9 => (intro w' hSw; (try dsimp only at hSw); go_simp <;> with_reducible rfl)
      try simp only [Act.put, List.setIfInBounds_toArray, List.set_cons_zero, List.set_cons_succ]
      refine wpAnyH_done (by kernel_rfl) ?_ _
      have HJ := hide hb1
      clear hb1 hh1 hHeld by1 k40 hbd hsx
      go_wp2
      go_roundw
      case rel => exact ⟨i + 1, by go_num, by omega, HJ⟩
      case measure => simp [intOf]; omega
    · have hz : ¬ (i : Int) < (R1.length : Int) := by omega
      go_upto_region 14 with fail
      obtain ⟨w7, hw7⟩ : ∃ r, r = wr := ⟨_, rfl⟩
      subst hw7
      have H7 := hide (And.intro (HL.out.1.below HI.out) (HD.out.trans (HI.out.mono HD.out.size)))
      go_wp2
      go_loopw [7] (fun v7 wr => ∃ i : Nat, v7 = .int .i64 (i : Nat) ∧ i ≤ l.length ∧ Hid (Below w7.heap.size w7 wr)) (fun v7 _ => l.length - (intOf v7).toNat)
      case atStart => exact ⟨0, rfl, Nat.zero_le _, hide (Below.refl _ _)⟩
      case round =>
        obtain ⟨i, rfl, hi, HJ⟩ := hrel
        by_cases hlt : i < l.length
        · have z1 : (i : Int) < (l.length : Int) := by omega
          by_cases h12 : i < 12
          · have z2 : (i : Int) < 12 := by omega
            go_upto_region 17 with fail
            obtain ⟨w8, hw8⟩ : ∃ r, r = wr := ⟨_, rfl⟩
            subst hw8
            go_wp2
            go_loopw [8] (fun v8 wr => ∃ k : Nat, v8 = .int .i64 (k : Nat) ∧ k ≤ l.length ∧ Hid (Below w7.heap.size w7 wr)) (fun v8 _ => l.length - (intOf v8).toNat)
            case atStart => exact ⟨0, rfl, Nat.zero_le _, HJ⟩
            case round =>
              obtain ⟨k, rfl, hk, HK⟩ := hrel
              by_cases hkl : k < l.length
              · have y1 : (k : Int) < (l.length : Int) := by omega
                by_cases k12 : k < 12
                · have y2 : (k : Int) < 12 := by omega
                  obtain ⟨x, hx⟩ : ∃ r, l[i]? = some r := ⟨_, List.getElem?_eq_getElem hlt⟩
                  obtain ⟨y, hy⟩ : ∃ r, l[k]? = some r := ⟨_, List.getElem?_eq_getElem hkl⟩
                  obtain ⟨ab, aoff, pa, pc, rfl, hp, c0, c1, c2, c3', c4', c5'⟩ := (H7.out.1.below HK.out) i x hx
                  obtain ⟨ab2, aoff2, qa, qc, e, hq, d0, d1, d2, d3, d4, d5⟩ := (H7.out.1.below HK.out) k y hy
                  cases e
                  have hxl := HL.out.2 x (List.mem_of_getElem? hx)
                  have hyl := HL.out.2 y (List.mem_of_getElem? hy)
                  clear hx hy
                  go_upto_region 20 with fail
                  refine wp_region_held_drew (S := fun w' => (w'.cell? ⟨ab, aoff + i * 6, none⟩ = some (.slice pa x.p.length pc) ∧ w'.cell? ⟨ab, aoff + i * 6 + 1, none⟩ = some (.int .i64 x.k) ∧ w'.cell? ⟨ab, aoff + i * 6 + 2, none⟩ = some (.string x.s) ∧ w'.cell? ⟨ab, aoff + i * 6 + 3, none⟩ = some (.int .i64 x.d) ∧ w'.cell? ⟨ab, aoff + i * 6 + 4, none⟩ = some (.int .i64 x.n) ∧ w'.cell? ⟨ab, aoff + i * 6 + 5, none⟩ = some (.string x.t)) ∧ (w'.cell? ⟨ab, aoff + k * 6, none⟩ = some (.slice qa y.p.length qc) ∧ w'.cell? ⟨ab, aoff + k * 6 + 1, none⟩ = some (.int .i64 y.k) ∧ w'.cell? ⟨ab, aoff + k * 6 + 2, none⟩ = some (.string y.s) ∧ w'.cell? ⟨ab, aoff + k * 6 + 3, none⟩ = some (.int .i64 y.d) ∧ w'.cell? ⟨ab, aoff + k * 6 + 4, none⟩ = some (.int .i64 y.n) ∧ w'.cell? ⟨ab, aoff + k * 6 + 5, none⟩ = some (.string y.t))) (by kernel_rfl) ⟨⟨c0, c1, c2, c3', c4', c5'⟩, d0, d1, d2, d3, d4, d5⟩ (fun hHeld => ?_)
                  have hbd : Below wr.heap.size wr wr.drew := (Below.refl _ _).drew
                  obtain ⟨Wd, hWd⟩ : ∃ r, r = wr.drew := ⟨_, rfl⟩
                  rw [← hWd] at hHeld hbd ⊢
                  clear hWd c0 c1 c2 c3' c4' c5' d0 d1 d2 d3 d4 d5
                  have k41 : Calls Tryz.prog 41 #[(.agg #[.slice pa x.p.length pc, .int .i64 x.k, .string x.s, .int .i64 x.d, .int .i64 x.n, .string x.t]), (.agg #[.slice qa y.p.length qc, .int .i64 y.k, .string y.s, .int .i64 y.d, .int .i64 y.n, .string y.t])] Wd fun e w' => e = .returned (.bool (sameO x y)) ∧ Below Wd.heap.size Wd w' := same41_any (pc := pc) (qc := qc) x y (hp.rs.below hbd) (hq.rs.below hbd) hxl hyl
                  have k30 : ∀ W, Below wr.heap.size wr W → Calls Tryz.prog 30 #[(.agg #[.slice pa x.p.length pc, .int .i64 x.k, .string x.s, .int .i64 x.d, .int .i64 x.n, .string x.t]), (.agg #[.slice qa y.p.length qc, .int .i64 y.k, .string y.s, .int .i64 y.d, .int .i64 y.n, .string y.t])] W fun e w' => e = .returned (.bool (sameO x y)) ∧ Below W.heap.size W w' := fun W hW => sameOp_any (pc := pc) (qc := qc) x y (hp.rs.below hW) (hq.rs.below hW) hxl hyl
                  obtain ⟨sb, hsb⟩ : ∃ r, r = sameO x y := ⟨_, rfl⟩
                  rw [← hsb] at k41
                  simp only [← hsb] at k30
                  clear hsb hp hq hxl hyl
                  refine take_op (i := 0) (d := 68) (OP := Op.move (Operand.tmp 0)) (T := 22) (v := ?vog10) rfl rfl rfl rfl (by kernel_rfl) (by kernel_rfl) (by kernel_rfl) (fun _ _ _ h => h) (by rfl) ?hog10 hHeld ?rog10
                  case hog10 => (intro w' hSw; (try dsimp only at hSw); go_simp <;> with_reducible rfl)
                  try simp only [Act.put, List.setIfInBounds_toArray, List.set_cons_zero, List.set_cons_succ]
                  refine take_op (i := 1) (d := 69) (OP := Op.move (Operand.tmp 7)) (T := 3) (v := ?vog11) rfl rfl rfl rfl (by kernel_rfl) (by kernel_rfl) (by kernel_rfl) (fun _ _ _ h => h) (by rfl) ?hog11 hHeld ?rog11
                  case hog11 => (intro w' hSw; (try dsimp only at hSw); go_simp <;> with_reducible rfl)
                  try simp only [Act.put, List.setIfInBounds_toArray, List.set_cons_zero, List.set_cons_succ]
                  refine take_op (i := 2) (d := 70) (OP := Op.indexAddr 22 (Operand.tmp 68) (Operand.tmp 69)) (T := 0) (v := (.pointer (some ⟨ab, aoff + i * 6, none⟩))) rfl rfl rfl rfl (by kernel_rfl) (by kernel_rfl) (by kernel_rfl) (fun _ _ _ h => h) (by rfl) ?hog12 hHeld ?rog12
                  case hog12 => (intro w' hSw; exact exec_index22 rfl rfl hlt)
                  try simp only [Act.put, List.setIfInBounds_toArray, List.set_cons_zero, List.set_cons_succ]
                  refine take_op (i := 3) (d := 71) (OP := Op.load 34 (Operand.tmp 70)) (T := 34) (v := ?vog13) rfl rfl rfl rfl (by kernel_rfl) (by kernel_rfl) (by kernel_rfl) (fun _ _ _ h => h) (by rfl) ?hog13 hHeld ?rog13
                  case hog13 => (intro w' hSw; (try dsimp only at hSw); go_simp <;> with_reducible rfl)
                  try simp only [Act.put, List.setIfInBounds_toArray, List.set_cons_zero, List.set_cons_succ]
                  refine take_op (i := 4) (d := 72) (OP := Op.move (Operand.tmp 0)) (T := 22) (v := ?vog14) rfl rfl rfl rfl (by kernel_rfl) (by kernel_rfl) (by kernel_rfl) (fun _ _ _ h => h) (by rfl) ?hog14 hHeld ?rog14
                  case hog14 => (intro w' hSw; (try dsimp only at hSw); go_simp <;> with_reducible rfl)
                  try simp only [Act.put, List.setIfInBounds_toArray, List.set_cons_zero, List.set_cons_succ]
                  refine take_op (i := 5) (d := 73) (OP := Op.move (Operand.tmp 8)) (T := 3) (v := ?vog15) rfl rfl rfl rfl (by kernel_rfl) (by kernel_rfl) (by kernel_rfl) (fun _ _ _ h => h) (by rfl) ?hog15 hHeld ?rog15
                  case hog15 => (intro w' hSw; (try dsimp only at hSw); go_simp <;> with_reducible rfl)
                  try simp only [Act.put, List.setIfInBounds_toArray, List.set_cons_zero, List.set_cons_succ]
                  refine take_op (i := 6) (d := 74) (OP := Op.indexAddr 22 (Operand.tmp 72) (Operand.tmp 73)) (T := 0) (v := (.pointer (some ⟨ab, aoff + k * 6, none⟩))) rfl rfl rfl rfl (by kernel_rfl) (by kernel_rfl) (by kernel_rfl) (fun _ _ _ h => h) (by rfl) ?hog16 hHeld ?rog16
                  case hog16 => (intro w' hSw; exact exec_index22 rfl rfl hkl)
                  try simp only [Act.put, List.setIfInBounds_toArray, List.set_cons_zero, List.set_cons_succ]
                  refine take_op (i := 7) (d := 75) (OP := Op.load 34 (Operand.tmp 74)) (T := 34) (v := ?vog17) rfl rfl rfl rfl (by kernel_rfl) (by kernel_rfl) (by kernel_rfl) (fun _ _ _ h => h) (by rfl) ?hog17 hHeld ?rog17
                  case hog17 => (intro w' hSw; (try dsimp only at hSw); go_simp <;> with_reducible rfl)
                  try simp only [Act.put, List.setIfInBounds_toArray, List.set_cons_zero, List.set_cons_succ]
                  refine take_op (i := 9) (d := 77) (OP := Op.move (Operand.tmp 0)) (T := 22) (v := ?vog18) rfl rfl rfl rfl (by kernel_rfl) (by kernel_rfl) (by kernel_rfl) (fun _ _ _ h => h) (by rfl) ?hog18 hHeld ?rog18
                  case hog18 => (intro w' hSw; (try dsimp only at hSw); go_simp <;> with_reducible rfl)
                  try simp only [Act.put, List.setIfInBounds_toArray, List.set_cons_zero, List.set_cons_succ]
                  refine take_op (i := 10) (d := 78) (OP := Op.move (Operand.tmp 7)) (T := 3) (v := ?vog19) rfl rfl rfl rfl (by kernel_rfl) (by kernel_rfl) (by kernel_rfl) (fun _ _ _ h => h) (by rfl) ?hog19 hHeld ?rog19
                  case hog19 => (intro w' hSw; (try dsimp only at hSw); go_simp <;> with_reducible rfl)
                  try simp only [Act.put, List.setIfInBounds_toArray, List.set_cons_zero, List.set_cons_succ]
                  refine take_op (i := 11) (d := 79) (OP := Op.indexAddr 22 (Operand.tmp 77) (Operand.tmp 78)) (T := 0) (v := (.pointer (some ⟨ab, aoff + i * 6, none⟩))) rfl rfl rfl rfl (by kernel_rfl) (by kernel_rfl) (by kernel_rfl) (fun _ _ _ h => h) (by rfl) ?hog20 hHeld ?rog20
                  case hog20 => (intro w' hSw; exact exec_index22 rfl rfl hlt)
                  try simp only [Act.put, List.setIfInBounds_toArray, List.set_cons_zero, List.set_cons_succ]
                  refine take_op (i := 12) (d := 80) (OP := Op.load 34 (Operand.tmp 79)) (T := 34) (v := ?vog21) rfl rfl rfl rfl (by kernel_rfl) (by kernel_rfl) (by kernel_rfl) (fun _ _ _ h => h) (by rfl) ?hog21 hHeld ?rog21
                  case hog21 => (intro w' hSw; (try dsimp only at hSw); go_simp <;> with_reducible rfl)
                  try simp only [Act.put, List.setIfInBounds_toArray, List.set_cons_zero, List.set_cons_succ]
                  refine take_op (i := 13) (d := 81) (OP := Op.move (Operand.tmp 0)) (T := 22) (v := ?vog22) rfl rfl rfl rfl (by kernel_rfl) (by kernel_rfl) (by kernel_rfl) (fun _ _ _ h => h) (by rfl) ?hog22 hHeld ?rog22
                  case hog22 => (intro w' hSw; (try dsimp only at hSw); go_simp <;> with_reducible rfl)
                  try simp only [Act.put, List.setIfInBounds_toArray, List.set_cons_zero, List.set_cons_succ]
                  refine take_op (i := 14) (d := 82) (OP := Op.move (Operand.tmp 8)) (T := 3) (v := ?vog23) rfl rfl rfl rfl (by kernel_rfl) (by kernel_rfl) (by kernel_rfl) (fun _ _ _ h => h) (by rfl) ?hog23 hHeld ?rog23
                  case hog23 => (intro w' hSw; (try dsimp only at hSw); go_simp <;> with_reducible rfl)
                  try simp only [Act.put, List.setIfInBounds_toArray, List.set_cons_zero, List.set_cons_succ]
                  refine take_op (i := 15) (d := 83) (OP := Op.indexAddr 22 (Operand.tmp 81) (Operand.tmp 82)) (T := 0) (v := (.pointer (some ⟨ab, aoff + k * 6, none⟩))) rfl rfl rfl rfl (by kernel_rfl) (by kernel_rfl) (by kernel_rfl) (fun _ _ _ h => h) (by rfl) ?hog24 hHeld ?rog24
                  case hog24 => (intro w' hSw; exact exec_index22 rfl rfl hkl)
                  try simp only [Act.put, List.setIfInBounds_toArray, List.set_cons_zero, List.set_cons_succ]
                  refine take_op (i := 16) (d := 84) (OP := Op.load 34 (Operand.tmp 83)) (T := 34) (v := ?vog25) rfl rfl rfl rfl (by kernel_rfl) (by kernel_rfl) (by kernel_rfl) (fun _ _ _ h => h) (by rfl) ?hog25 hHeld ?rog25
                  case hog25 => (intro w' hSw; (try dsimp only at hSw); go_simp <;> with_reducible rfl)
                  try simp only [Act.put, List.setIfInBounds_toArray, List.set_cons_zero, List.set_cons_succ]
                  refine call_op (i := 8) (d := 76) (OP := Op.call { callee := Callee.value (Operand.func 41), args := #[Operand.tmp 71, Operand.tmp 75], argTypes := #[34, 34] }) (T := 4) (f := 41) (args := #[(.agg #[.slice pa x.p.length pc, .int .i64 x.k, .string x.s, .int .i64 x.d, .int .i64 x.n, .string x.t]), (.agg #[.slice qa y.p.length qc, .int .i64 y.k, .string y.s, .int .i64 y.d, .int .i64 y.n, .string y.t])]) rfl rfl rfl rfl (by kernel_rfl) (by rfl) (by go_simp) ?_
                  refine k41.mono ?_
                  rintro e y1 ⟨rfl, by1⟩
                  have hb1 := hbd.trans (by1.mono hbd.size)
                  have hh1 := And.intro (And.intro (Ki.cell_stays hHeld.1.1 by1) (And.intro (Ki.cell_stays hHeld.1.2.1 by1) (And.intro (Ki.cell_stays hHeld.1.2.2.1 by1) (And.intro (Ki.cell_stays hHeld.1.2.2.2.1 by1) (And.intro (Ki.cell_stays hHeld.1.2.2.2.2.1 by1) (Ki.cell_stays hHeld.1.2.2.2.2.2 by1)))))) (And.intro (Ki.cell_stays hHeld.2.1 by1) (And.intro (Ki.cell_stays hHeld.2.2.1 by1) (And.intro (Ki.cell_stays hHeld.2.2.2.1 by1) (And.intro (Ki.cell_stays hHeld.2.2.2.2.1 by1) (And.intro (Ki.cell_stays hHeld.2.2.2.2.2.1 by1) (Ki.cell_stays hHeld.2.2.2.2.2.2 by1))))))
                  refine ⟨_, rfl, hh1, ?_⟩
                  replace hHeld := hh1
                  try simp only [Act.put, List.setIfInBounds_toArray, List.set_cons_zero, List.set_cons_succ]
                  refine call_op (i := 17) (d := 85) (OP := Op.call { callee := Callee.value (Operand.func 30), args := #[Operand.tmp 80, Operand.tmp 84], argTypes := #[34, 34] }) (T := 4) (f := 30) (args := #[(.agg #[.slice pa x.p.length pc, .int .i64 x.k, .string x.s, .int .i64 x.d, .int .i64 x.n, .string x.t]), (.agg #[.slice qa y.p.length qc, .int .i64 y.k, .string y.s, .int .i64 y.d, .int .i64 y.n, .string y.t])]) rfl rfl rfl rfl (by kernel_rfl) (by rfl) (by go_simp) ?_
                  refine (k30 _ hb1).mono ?_
                  rintro e y2 ⟨rfl, by2⟩
                  have hb2 := hb1.trans (by2.mono hb1.size)
                  have hh2 := And.intro (And.intro (Ki.cell_stays hHeld.1.1 by2) (And.intro (Ki.cell_stays hHeld.1.2.1 by2) (And.intro (Ki.cell_stays hHeld.1.2.2.1 by2) (And.intro (Ki.cell_stays hHeld.1.2.2.2.1 by2) (And.intro (Ki.cell_stays hHeld.1.2.2.2.2.1 by2) (Ki.cell_stays hHeld.1.2.2.2.2.2 by2)))))) (And.intro (Ki.cell_stays hHeld.2.1 by2) (And.intro (Ki.cell_stays hHeld.2.2.1 by2) (And.intro (Ki.cell_stays hHeld.2.2.2.1 by2) (And.intro (Ki.cell_stays hHeld.2.2.2.2.1 by2) (And.intro (Ki.cell_stays hHeld.2.2.2.2.2.1 by2) (Ki.cell_stays hHeld.2.2.2.2.2.2 by2))))))
                  refine ⟨_, rfl, hh2, ?_⟩
                  replace hHeld := hh2
                  try simp only [Act.put, List.setIfInBounds_toArray, List.set_cons_zero, List.set_cons_succ]
                  refine take_op (i := 18) (d := 86) (OP := Op.binOp BinOp.neq 4 (Operand.tmp 76) (Operand.tmp 85) 4) (T := 4) (v := (.bool false)) rfl rfl rfl rfl (by kernel_rfl) (by kernel_rfl) (by kernel_rfl) (fun _ _ _ h => h) (by rfl) ?hog26 hHeld ?rog26
                  case hog26 => (intro w' hSw; cases sb <;> go_simp)
                  try simp only [Act.put, List.setIfInBounds_toArray, List.set_cons_zero, List.set_cons_succ]
                  refine wpAnyH_done (by kernel_rfl) ?_ _
                  have HJ2 := hide (HK.out.trans (hb2.mono HK.out.size))
                  clear hb1 hb2 hh1 hh2 hHeld by1 by2 k41 k30 hbd
                  go_wp2
                  go_roundw
                  case rel => exact ⟨k + 1, by go_num, by omega, HJ2⟩
                  case measure => simp [intOf]; omega
                · have y2 : ¬ (k : Int) < 12 := by omega
                  go_wp2
                  go_roundw
                  case rel => exact ⟨i + 1, by go_num, by omega, HK⟩
                  case measure => simp [intOf]; omega
              · have y1 : ¬ (k : Int) < (l.length : Int) := by omega
                go_wp2
                go_roundw
                case rel => exact ⟨i + 1, by go_num, by omega, HK⟩
                case measure => simp [intOf]; omega
          · have z2 : ¬ (i : Int) < 12 := by omega
            have hB := H7.out.2.trans (HJ.out.mono H7.out.2.size)
            have HB := hide hB
            clear hB
            go_wp2_with (go_at_call 9; refine (k9 _ HB.out).mono ?_; rintro e w9 ⟨rfl, d9⟩; have D9 := hide d9; clear d9)
            go_ret
            exact ⟨rfl, up HB.out D9.out⟩
        · have z1 : ¬ (i : Int) < (l.length : Int) := by omega
          have hB := H7.out.2.trans (HJ.out.mono H7.out.2.size)
          have HB := hide hB
          clear hB
          go_wp2_with (go_at_call 9; refine (k9 _ HB.out).mono ?_; rintro e w9 ⟨rfl, d9⟩; have D9 := hide d9; clear d9)
          go_ret
          exact ⟨rfl, up HB.out D9.out⟩
end Go.Proofs.YtpepgoelnagoaaaGreatDoor
