/-
  tagset: the document's Texts (115).
-/
import Derived.Test.YtkkpdgfllnbigaaGreatTgSo
import Derived.Test.YtkkpdgfllnbigaaGreatMg17
import Derived.Test.YtkkpdgfllnbigaaGreatMg18
import Derived.Test.YtkkpdgfllnbigaaGreatMg14
namespace Go.Proofs.YtkkpdgfllnbigaaGreat.Tg
open Go.RowKit Go.Shelf Go.Sort
set_option linter.unusedSimpArgs false
set_option linter.unusedVariables false
attribute [local go_sem] Oper.semAt_some

theorem otShape {w : World} {B : Nat} {v : Value} {L : List ByteArray} (h : Ot w B v L) : (v = .slice none 0 0 ∧ L = []) ∨ ∃ g cap, v = .slice (some ⟨g, 0, none⟩) L.length cap ∧ B ≤ g ∧ L.length ≤ cap := by
  rcases h with ⟨h1, h2⟩
  rcases h2 with ⟨e, e2⟩ | ⟨g, cap, cur, e, hb, hg, hnc, r⟩
  · exact .inl ⟨e, List.eq_nil_of_length_eq_zero e2⟩
  · exact .inr ⟨g, cap, e, hb, hnc⟩
theorem ot_form {w : World} {B : Nat} {v : Value} {L : List ByteArray} (h : Ot w B v L) : ∃ ao c, v = .slice ao L.length c := by
  rcases otShape h with ⟨rfl, rfl⟩ | ⟨g, cap, rfl, -⟩
  · exact ⟨none, 0, rfl⟩
  · exact ⟨_, _, rfl⟩
theorem ot_parts {w : World} {B n c : Nat} {ao : Option Addr} {L : List ByteArray} (h : Ot w B (.slice ao n c) L) : Rs w ao L ∧ (ao = none → c = 0) ∧ (∀ a, ao = some a → a.spot = none) ∧ L.length ≤ c ∧ n = L.length := by
  have hr := h.rs
  rcases otShape h with ⟨e1, e2⟩ | ⟨g, cap, e1, h1, h2⟩
  · simp only [Value.slice.injEq] at e1
    obtain ⟨rfl, rfl, rfl⟩ := e1
    subst e2
    exact ⟨hr, fun _ => rfl, fun a ha => (nomatch ha), by simp, rfl⟩
  · simp only [Value.slice.injEq] at e1
    obtain ⟨rfl, rfl, rfl⟩ := e1
    exact ⟨hr, fun e => (by simp at e), fun a ha => (by cases ha; rfl), h2, rfl⟩
theorem app_texts {w : World} {B : Nat} {v : Value} {p l : List ByteArray} {ao : Option Addr} {c : Nat} (hown : Ot w B v p) (hc : ao = none → c = 0) (hrd : Rs w ao l) (hbytes : p.length + l.length ≤ 1000000) (hB : B ≤ w.heap.size) :
    ∃ a' c' w', (Builtin.append_ #[63, 63] 63 #[v, .slice ao l.length c]).run Tryz.prog w = .ok (.slice a' (p ++ l).length c') w' ∧ Ot w' B (.slice a' (p ++ l).length c') (p ++ l) ∧ Below B w w' := by
  obtain ⟨i0, hi, hz0, hz1, hz2⟩ := info_of info9t
  cases ao with
  | none =>
    have hl := hrd.1 rfl
    subst hl
    have hc0 := hc rfl
    subst hc0
    rw [List.append_nil]
    rcases otShape hown with ⟨e1, e2⟩ | ⟨g, cap, e1, _⟩
    · subst e1 e2
      exact ⟨none, 0, w, run_append_owned_none (P := Tryz.prog) (w := w) B 63 63 9 i0 1 Tryz.underlying63 hi _ _ _ hown, hown, Below.refl _ _⟩
    · subst e1
      exact ⟨_, _, w, run_append_owned_none (P := Tryz.prog) (w := w) B 63 63 9 i0 1 Tryz.underlying63 hi _ _ _ hown, hown, Below.refl _ _⟩
  | some ad =>
    obtain ⟨v', w', hr, h2, h3, _⟩ := run_append_own (P := Tryz.prog) w B 63 63 9 i0 (.string ⟨#[]⟩) 1 16 Tryz.underlying63 hi hz0 hz1 hz2 rfl (by decide) v p.length (p.map Value.string) hown ad l.length c (l.map Value.string) (by simp) (fun j u hj => by
        rw [List.getElem?_map] at hj
        obtain ⟨s, hs, rfl⟩ := Option.map_eq_some_iff.1 hj
        exact hrd.2 ad rfl j s hs) (fun u hu => by obtain ⟨s, _, rfl⟩ := List.mem_map.1 hu; rfl) (by unfold maxLen; omega) (by omega) hB
    have hO : Ot w' B v' (p ++ l) := by unfold Ot; rw [List.map_append, List.length_append]; exact h2
    rcases otShape hO with ⟨e1, e2⟩ | ⟨g, cap, e1, _⟩
    · rw [e2]
      subst e1
      rw [e2] at hO
      exact ⟨none, 0, w', hr, hO, (Below.refl B w).grown h3 hB (fun k hk => (World.ownsRow.lt hown k hk).1)⟩
    · subst e1
      exact ⟨_, _, w', hr, hO, (Below.refl B w).grown h3 hB (fun k hk => (World.ownsRow.lt hown k hk).1)⟩
theorem sliceT_hi {ao : Option Addr} {n c j : Nat} (hj : j ≤ c) (hs : ∀ a, ao = some a → a.spot = none) (w : World) : (Instr.slice 63 (.slice ao n c) none (some (.int .i64 j)) none).run Tryz.prog w = .ok (.slice ao j c) w := by
  have h2 : (0 : Int) ≤ (j : Int) ∧ (j : Int) ≤ (c : Int) := by omega
  have hA : (if c = 0 then ao else ao.map (fun x => x.add 0)) = ao := by
    split
    · rfl
    · cases ao with
      | none => rfl
      | some a => obtain ⟨b, o, s⟩ := a; have := hs _ rfl; simp only at this; subst this; rw [Option.map_some, add_lit]; simp
  have : (Instr.slice 63 (.slice ao n c) none (some (.int .i64 j)) none).run Tryz.prog w = .ok (.slice (if c = 0 then ao else ao.map (fun x => x.add 0)) j c) w := by
    simp [Instr.slice, Instr.sliceBounds, Instr.sliceBound, asIntOf, run_underlying Tryz.underlying63, go_sem, hj, Tryz.sizeOf9]
  rw [this, hA]
theorem sliceT_lo {ao : Option Addr} {n c j : Nat} (hj : j ≤ n) (hn : n ≤ c) (w : World) : (Instr.slice 63 (.slice ao n c) (some (.int .i64 j)) none none).run Tryz.prog w = .ok (.slice (if c - j = 0 then ao else ao.map (fun x => x.add j)) (n - j) (c - j)) w := by
  have h2 : (0 : Int) ≤ (j : Int) ∧ (j : Int) ≤ (n : Int) := by omega
  have h3 : (n : Int) - (j : Int) = ((n - j : Nat) : Int) := by omega
  have h4 : (c : Int) - (j : Int) = ((c - j : Nat) : Int) := by omega
  have h5 : j ≤ c := by omega
  simp [Instr.slice, Instr.sliceBounds, Instr.sliceBound, asIntOf, run_underlying Tryz.underlying63, go_sem, hj, hn, h5, Tryz.sizeOf9]
  by_cases h : c = j
  · rw [if_pos h, if_pos (by omega)]
  · rw [if_neg h, if_neg (by omega)]
theorem exec_slT {ev : Operand → Value} {x z : Operand} {T : TypeId} {w : World} {u b v : Value} (hx : ev x = u) (hz : ev z = b) (h : (Instr.slice 63 u none (some b) none).run Tryz.prog w = .ok v w) :
    (execOp ev { dst := none, op := .slice 63 x none (some z) none, type := T, pos := "", after := #[], guard := none }).run Tryz.prog w = .ok (.value v) w := by
  have h2 : (Instr.sliceAt 63 u none (some b) none).run Tryz.prog w = .ok v w := by simp [Instr.sliceAt, run_underlying Tryz.underlying63, h]
  simp [execOp, hx, hz, h2, Result.andThen]
theorem exec_slL {ev : Operand → Value} {x z : Operand} {T : TypeId} {w : World} {u b v : Value} (hx : ev x = u) (hz : ev z = b) (h : (Instr.slice 63 u (some b) none none).run Tryz.prog w = .ok v w) :
    (execOp ev { dst := none, op := .slice 63 x (some z) none none, type := T, pos := "", after := #[], guard := none }).run Tryz.prog w = .ok (.value v) w := by
  have h2 : (Instr.sliceAt 63 u (some b) none none).run Tryz.prog w = .ok v w := by simp [Instr.sliceAt, run_underlying Tryz.underlying63, h]
  simp [execOp, hx, hz, h2, Result.andThen]
theorem rs_takeT {w : World} {ao : Option Addr} {L : List ByteArray} (h : Rs w ao L) (n : Nat) : Rs w ao (L.take n) := ⟨fun e => by rw [h.1 e]; simp, fun a ha j s hj => h.2 a ha j s (by
  rw [List.getElem?_take] at hj
  split at hj
  · exact hj
  · cases hj)⟩
theorem rs_dropT {w : World} {ao ad : Option Addr} {L : List ByteArray} {c n : Nat} (h : Rs w ao L) (hs : ∀ a, ao = some a → a.spot = none) (hc : L.length ≤ c) (he : ad = if c - n = 0 then ao else ao.map (fun x => x.add n)) : Rs w ad (L.drop n) := by
  subst he
  split
  · have : L.drop n = [] := List.drop_eq_nil_of_le (by omega)
    rw [this]
    exact ⟨fun _ => rfl, fun a _ j s hj => by simp at hj⟩
  · refine ⟨fun e => ?_, fun a ha j s hj => ?_⟩
    · cases ao with
      | none => rw [h.1 rfl]; simp
      | some x => simp at e
    · cases ao with
      | none => simp at ha
      | some x =>
        simp only [Option.map_some, Option.some.injEq] at ha
        rw [List.getElem?_drop] at hj
        have := h.2 x rfl (n + j) s hj
        obtain ⟨b, o, sp⟩ := x
        have hsp := hs _ rfl
        simp only at hsp
        subst hsp
        subst ha
        rw [add_lit] at this ⊢
        rw [add_lit]
        simpa [Nat.add_assoc] using this
theorem mark_rs {W : World} {m : Nat} {t : ByteArray} (hm : W.heap[m]? = some (.cells #[.string t] 9 (0, 0))) : Rs W (some ⟨m, 0, none⟩) [t] := ⟨fun e => by simp at e, fun a ha j s hj => by
  cases ha
  have hj0 : j = 0 := by have := (List.getElem?_eq_some_iff.1 hj).1; simp at this; exact this
  subst hj0
  simp only [List.getElem?_cons_zero, Option.some.injEq] at hj
  subst hj
  rw [add_lit]
  exact (cell_of_row _ _ 0 _ 9 (0, 0) hm).trans rfl⟩
theorem cmpB_eq_iff (a b : ByteArray) : Pm.cmpB a b = 0 ↔ a = b := ⟨fun h => Pm.ord_B.eq a b h, fun h => by subst h; have := Pm.ord_B.anti a a; omega⟩
theorem insU_at (t : ByteArray) : ∀ (L : List ByteArray) (n : Nat), n ≤ L.length → (∀ j y, j < n → L[j]? = some y → Pm.cmpB y t = -1) → (∀ y, L[n]? = some y → ¬ Pm.cmpB y t = -1) → Rise.insU Pm.cmpB t L = if L[n]? = some t then L else L.take n ++ [t] ++ L.drop n
  | [], n, hn, _, _ => by
    have : n = 0 := by simpa using hn
    subst this
    simp [Rise.insU]
  | y :: L, 0, _, _, h => by
    have hy := h y rfl
    rw [Rise.insU, if_neg hy]
    by_cases e : y = t
    · subst e
      rw [if_pos ((cmpB_eq_iff y y).2 rfl)]
      simp
    · rw [if_neg (fun hc => e ((cmpB_eq_iff y t).1 hc))]
      simp [e]
  | y :: L, n + 1, hn, h1, h2 => by
    rw [Rise.insU, if_pos (h1 0 y (by omega) rfl), insU_at t L n (by simpa using hn) (fun j z hj hz => h1 (j + 1) z (by omega) (by simpa using hz)) (fun z hz => h2 z (by simpa using hz))]
    simp only [List.getElem?_cons_succ, List.take_succ_cons, List.drop_succ_cons, List.cons_append]
    split <;> rfl
theorem insU_len (t : ByteArray) : ∀ L : List ByteArray, (Rise.insU Pm.cmpB t L).length ≤ L.length + 1
  | [] => by simp [Rise.insU]
  | y :: L => by
    rw [Rise.insU]
    have := insU_len t L
    split
    · simp; omega
    · split <;> simp
theorem none_of {ao A : Option Addr} {c n : Nat} (hA : A = (if c - n = 0 then ao else ao.map (fun x => x.add n))) (hz : ao = none → c = 0) : A = none → c - n = 0 := fun e => by
  rw [hA] at e
  by_cases h : c - n = 0
  · exact h
  · rw [if_neg h] at e
    cases ao with
    | none => have := hz rfl; omega
    | some a => cases e
/-- The texts of a list, rising, each once. -/
def shT (l : List El) : List ByteArray := (l.map Prod.snd).foldl (fun o t => Rise.insU Pm.cmpB t o) []
theorem shT_next {l : List El} {i : Nat} {x : El} (h : l[i]? = some x) : shT (l.take (i + 1)) = Rise.insU Pm.cmpB x.2 (shT (l.take i)) := by
  have e : l.take (i + 1) = l.take i ++ [x] := by rw [List.take_add_one, h]; rfl
  unfold shT
  rw [e, List.map_append, List.foldl_append]
  rfl
theorem shT_len (l : List El) : ∀ i, i ≤ l.length → (shT (l.take i)).length ≤ i
  | 0, _ => by unfold shT; simp
  | i + 1, hi => by
    rw [shT_next (List.getElem?_eq_getElem (by omega))]
    have := shT_len l i (by omega)
    have := insU_len (l[i]).2 (shT (l.take i)); omega
theorem exec_ld9 {ev' : Operand → Value} {p : Operand} {T : TypeId} {w : World} {b o : Nat} {y : ByteArray} (hx : ev' p = .pointer (some ⟨b, o, none⟩)) (c0 : w.cell? ⟨b, o, none⟩ = some (.string y)) :
    (execOp ev' { dst := none, op := .load 9 p, type := T, pos := "", after := #[], guard := none }).run Tryz.prog w = .ok (.value (.string y)) w := by
  unfold execOp
  simp only [hx]
  go_simp
set_option maxHeartbeats 8000000 in
set_option maxRecDepth 100000 in
theorem texts115 {w : World} {ao : Option Addr} {c : Nat} (l : List El) (h : Re w ao l) (hl : l.length ≤ 100000) : Calls Tryz.prog 115 #[.slice ao l.length c] w fun e w' => ∃ v, e = .returned v ∧ Ot w' w.heap.size v (shT l) ∧ Below w.heap.size w w' := by
  have mixed : Tryz.prog.follows .mixedOrders = true := by kernel_rfl
  obtain ⟨N, hN⟩ : ∃ N, N = l.length := ⟨_, rfl⟩
  rw [← hN] at hl ⊢
  have H := hide (And.intro hN h)
  clear hN h
  go_enter Tryz.func115, Tryz.ntmps115
  go_wp2
  go_loopw [3, 4] (fun v3 v4 wo => ∃ i : Nat, v4 = .int .i64 i ∧ i ≤ N ∧ Hid (Ot wo w.heap.size v3 (shT (l.take i))) ∧ Hid (Below w.heap.size w wo)) (fun _ v4 _ => N - (intOf v4).toNat)
  case atStart => exact ⟨0, rfl, by omega, hide (Ot.nil _ _), hide (Below.refl _ _)⟩
  case round =>
    obtain ⟨i, rfl, hil, HO, HW⟩ := hrel
    have hsz := HW.out.size
    by_cases hgo : i < N
    · have z1 : (i : Int) < (N : Int) := by omega
      obtain ⟨x, hx⟩ : ∃ x, l[i]? = some x := ⟨_, List.getElem?_eq_getElem (by rw [← H.out.1]; exact hgo)⟩
      obtain ⟨b, off, hao, -⟩ := H.out.2.cells hx
      have hnext := shT_next hx
      have hlen := shT_len l i (by rw [← H.out.1]; exact hil)
      have HX := hide (And.intro hx hnext)
      obtain ⟨out, hout⟩ : ∃ out, out = shT (l.take i) := ⟨_, rfl⟩
      rw [← hout] at HO HX hlen
      have hlo : out.length ≤ 100000 := by omega
      clear hx hnext hlen hout
      obtain ⟨ao3, c3, hv3⟩ := ot_form HO.out
      subst hv3
      have HR := hide (H.out.2.below HW.out)
      rw [hao] at HR
      subst hao
      obtain ⟨wo, hwo⟩ : ∃ wo, wr = wo := ⟨_, rfl⟩
      rw [hwo] at HO HW HR hsz ⊢
      clear hwo
      obtain ⟨⟨g, r, lb, m, ix⟩, y⟩ := x
      go_wp2
      go_loopw [5] (fun v5 wr => ∃ n : Nat, v5 = .int .i64 n ∧ n ≤ out.length ∧ Hid (∀ j z, j < n → out[j]? = some z → Pm.cmpB z y = -1) ∧ Hid (Below wo.heap.size wo wr)) (fun v5 _ => out.length - (intOf v5).toNat)
      case atStart => exact ⟨0, rfl, Nat.zero_le _, hide (fun j z hj => by omega), hide (Below.refl _ _)⟩
      case round =>
        obtain ⟨n, rfl, hn, HA, HI⟩ := hrel
        by_cases hne : n < out.length
        · obtain ⟨q, hq⟩ : ∃ q, out[n]? = some q := ⟨_, List.getElem?_eq_getElem hne⟩
          obtain ⟨gb, goff, hg, e0⟩ := ((ot_parts HO.out).1.below HI.out).at hq
          subst hg
          obtain ⟨b', off', e', f0, f1, f2, f3, f4, f5⟩ := (HR.out.below HI.out).cells HX.out.1
          injection e' with e'
          injection e' with e1' e2'
          subst e1' e2'
          dsimp only at f5
          have z2 : (n : Int) < (out.length : Int) := by omega
          have z4 : decide (n < out.length) = true := by simpa using hne
          have z5 : decide (i < N) = true := by simpa using hgo
          have nM : ¬ (n : Int) = (out.length : Int) := by omega
          have eM : decide ((n : Int) = (out.length : Int)) = false := by simpa using nM
          have bM : ((n : Int) == (out.length : Int)) = false := by simpa using nM
          have nM' : ¬ n = out.length := by omega
          clear f0 f1 f2 f3 f4
          by_cases hv : Pm.cmpB q y = -1
          · have hls : Op.bytesLess q.toList y.toList = true := by rw [Pm.less_B, hv]; rfl
            have HV := hide (And.intro hq hv)
            clear hq hv
            go_upto_region 6 with fail
            go_quiet (fail)
            have HQ := hide (HI.out.trans ((below_drew wr nq).mono HI.out.size))
            generalize wr.drewN nq = wq at HQ ⊢
            clear e0 f5
            go_wp2
            go_roundw
            case rel => exact ⟨n + 1, by go_num, by omega, hide (fun j z hj hz => by
              by_cases hjn : j = n
              · subst hjn; rw [HV.out.1] at hz; cases hz; exact HV.out.2
              · exact HA.out j z (by omega) hz), hide HQ.out⟩
            case measure => simp [intOf]; omega
          · have hls : Op.bytesLess q.toList y.toList = false := by rw [Pm.less_B]; simpa using hv
            have hfin := insU_at y out n hn HA.out (fun z hz => by rw [hq] at hz; cases hz; exact hv)
            have hS : ∀ W, Below wr.heap.size wr W → W.cell? ⟨gb, goff + n, none⟩ = some (.string q) ∧ W.cell? ⟨b, off + i * 6 + 5, none⟩ = some (.string y) := fun W hW => ⟨cell_stays e0 hW, cell_stays f5 hW⟩
            have HS := hide hS
            by_cases hqy : q = y
            · rw [if_pos (by rw [hq, hqy])] at hfin
              have bq : (q.toList == y.toList) = true := by rw [bytes_same]; exact hqy
              have HF := hide (HX.out.2.trans hfin)
              clear hq hv hfin hqy hS
              go_upto_region 6 with fail
              go_quiet (fail)
              obtain ⟨w7, hw7⟩ : ∃ q, wr.drewN nq = q := ⟨_, rfl⟩
              rw [hw7]
              have hb7 : Below wr.heap.size wr w7 := by rw [← hw7]; exact below_drew wr nq
              have HQ := hide (HI.out.trans (hb7.mono HI.out.size))
              obtain ⟨e0, f5⟩ := HS.out w7 hb7
              clear hw7 hb7
              go_upto_region 8 with fail
              go_quiet (fail)
              have HQ2 := hide (HQ.out.trans ((below_drew w7 nq).mono HQ.out.size))
              generalize w7.drewN nq = wq at HQ2 ⊢
              clear e0 f5 HS HQ
              go_wp2
              go_roundw
              case rel => exact ⟨i + 1, by go_num, by omega, hide (by rw [HF.out]; exact (HO.out.below HQ2.out)), hide (HW.out.trans (HQ2.out.mono hsz))⟩
              case measure => simp [intOf]; omega
            · rw [if_neg (by rw [hq]; intro hc; injection hc with hc; exact hqy hc)] at hfin
              have bq : (q.toList == y.toList) = false := by rw [Bool.eq_false_iff, Ne, bytes_same]; exact hqy
              have HF := hide (HX.out.2.trans hfin)
              clear hq hv hfin hqy hS
              go_upto_region 6 with fail
              go_quiet (fail)
              obtain ⟨w7, hw7⟩ : ∃ q, wr.drewN nq = q := ⟨_, rfl⟩
              rw [hw7]
              have hb7 : Below wr.heap.size wr w7 := by rw [← hw7]; exact below_drew wr nq
              have HQ0 := hide (HI.out.trans (hb7.mono HI.out.size))
              obtain ⟨e0, f5⟩ := HS.out w7 hb7
              clear hw7 hb7
              go_upto_region 8 with fail
              go_quiet (fail)
              have HQ := hide (HQ0.out.trans ((below_drew w7 nq).mono HQ0.out.size))
              generalize w7.drewN nq = wq at HQ ⊢
              clear e0 f5 HS HQ0
              have HZ := HQ
              obtain ⟨wz, hwz⟩ : ∃ q, wq = q := ⟨_, rfl⟩
              clear HQ
              go_upto_region 9 with fail
              rw [hwz] at HZ ⊢
              clear hwz
              obtain ⟨hro, hzc, hspot, hc3, -⟩ := ot_parts HO.out
              have hOz := hro.below HZ.out
              have hnl : n ≤ out.length := by omega
              have r1 := sliceT_hi (n := out.length) (c := c3) (j := n) (by omega) hspot
              have q1 := rs_takeT hOz n
              obtain ⟨A2, hA2⟩ : ∃ A : Option Addr, A = (if c3 - n = 0 then (some ⟨gb, goff, none⟩) else ((some ⟨gb, goff, none⟩) : Option Addr).map (fun x => x.add n)) := ⟨_, rfl⟩
              have r2 := sliceT_lo (ao := (some ⟨gb, goff, none⟩)) (n := out.length) (c := c3) (j := n) hnl hc3
              rw [← hA2] at r2
              have q2 := rs_dropT hOz hspot hc3 hA2
              have m2 := none_of hA2 hzc
              obtain ⟨b', off', e', f0, f1, f2, f3, f4, f5⟩ := (HR.out.below HZ.out).cells HX.out.1
              injection e' with e'
              injection e' with e1 e2
              subst e1 e2
              simp only at f5
              have hbz : b < wz.heap.size := World.block_lt_of_cell? _ _ f5
              clear f0 f1 f2 f3 f4
              have hl1 : (out.take n).length = n := by rw [List.length_take]; omega
              have hl2 : (out.drop n).length = out.length - n := by rw [List.length_drop]
              have hap1 : ∀ W, Below wz.heap.size wz W → ∃ v9 w9, (Builtin.append_ #[63, 63] 63 #[.slice none 0 0, .slice (some ⟨gb, goff, none⟩) n c3]).run Tryz.prog W = .ok v9 w9 ∧ Ot w9 wz.heap.size v9 (out.take n) ∧ Below W.heap.size W w9 := fun W hW => by
                obtain ⟨a', c', w', h1, h2, h3⟩ := app_texts (Ot.nil W W.heap.size) hzc (q1.below hW) (by simp; omega) (Nat.le_refl _)
                rw [hl1] at h1
                exact ⟨_, w', h1, h2.lift hW.size, h3⟩
              have hap2 : ∀ (W : World) (v : Value) (R : Nat), Below wz.heap.size wz W → Ot W wz.heap.size v (out.take n) → Rs W (some ⟨R, 0, none⟩) [y] → ∃ v9 w9, (Builtin.append_ #[63, 63] 63 #[v, .slice (some ⟨R, 0, none⟩) 1 1]).run Tryz.prog W = .ok v9 w9 ∧ Ot w9 wz.heap.size v9 (out.take n ++ [y]) ∧ Below wz.heap.size W w9 := fun W v R hW ho hr => by
                obtain ⟨a', c', w', h1, h2, h3⟩ := app_texts (c := 1) ho (by simp) hr (by simp; omega) hW.size
                exact ⟨_, w', h1, h2, h3⟩
              have hap3 : ∀ (W : World) (v : Value), Below wz.heap.size wz W → Ot W wz.heap.size v (out.take n ++ [y]) → ∃ v9 w9, (Builtin.append_ #[63, 63] 63 #[v, .slice A2 (out.length - n) (c3 - n)]).run Tryz.prog W = .ok v9 w9 ∧ Ot w9 wz.heap.size v9 (out.take n ++ [y] ++ out.drop n) ∧ Below wz.heap.size W w9 := fun W v hW ho => by
                obtain ⟨a', c', w', h1, h2, h3⟩ := app_texts (c := c3 - n) ho m2 (q2.below hW) (by simp; omega) hW.size
                rw [hl2] at h1
                exact ⟨_, w', h1, h2, h3⟩
              clear hro hOz q1 q2 m2 hl1 hl2 hspot hzc hA2
              refine wp_region_held_drew (S := (fun w' => Below wz.heap.size wz w')) (by kernel_rfl) (by exact (Below.refl _ wz).drew) (fun hHeld => ?_)
              try dsimp only at hHeld
              generalize wz.drew = W1 at hHeld ⊢
              refine take_op (i := 0) (d := 46) (OP := Op.move (Operand.tmp 3)) (T := 63) (v := ?vsy1) rfl rfl rfl rfl (by kernel_rfl) (by kernel_rfl) (by kernel_rfl) (fun _ _ _ h => h) (by rfl) ?hsy1 hHeld ?rsy1
              case hsy1 => (intro w' hSw; (try dsimp only at hSw); go_simp <;> with_reducible rfl)
              try simp only [Act.put, sI, sZ, sS]
              refine take_op (i := 1) (d := 47) (OP := Op.move (Operand.tmp 5)) (T := 3) (v := ?vsy2) rfl rfl rfl rfl (by kernel_rfl) (by kernel_rfl) (by kernel_rfl) (fun _ _ _ h => h) (by rfl) ?hsy2 hHeld ?rsy2
              case hsy2 => (intro w' hSw; (try dsimp only at hSw); go_simp <;> with_reducible rfl)
              try simp only [Act.put, sI, sZ, sS]
              refine take_op (i := 2) (d := 48) (OP := Op.slice 63 (Operand.tmp 46) none (some (Operand.tmp 47)) none) (T := 63) (v := .slice (some ⟨gb, goff, none⟩) n c3) rfl rfl rfl rfl (by kernel_rfl) (by kernel_rfl) (by kernel_rfl) (fun _ _ _ h => h) (by rfl) (fun w' _ => exec_slT rfl rfl (r1 w')) hHeld ?_
              try simp only [Act.put, sI, sZ, sS]
              refine take_op (i := 4) (d := 50) (OP := Op.move (Operand.tmp 0)) (T := 22) (v := ?vsy3) rfl rfl rfl rfl (by kernel_rfl) (by kernel_rfl) (by kernel_rfl) (fun _ _ _ h => h) (by rfl) ?hsy3 hHeld ?rsy3
              case hsy3 => (intro w' hSw; (try dsimp only at hSw); go_simp <;> with_reducible rfl)
              try simp only [Act.put, sI, sZ, sS]
              refine take_op (i := 5) (d := 51) (OP := Op.move (Operand.tmp 4)) (T := 3) (v := ?vsy4) rfl rfl rfl rfl (by kernel_rfl) (by kernel_rfl) (by kernel_rfl) (fun _ _ _ h => h) (by rfl) ?hsy4 hHeld ?rsy4
              case hsy4 => (intro w' hSw; (try dsimp only at hSw); go_simp <;> with_reducible rfl)
              try simp only [Act.put, sI, sZ, sS]
              refine take_op (i := 6) (d := 52) (OP := Op.indexAddr 22 (Operand.tmp 50) (Operand.tmp 51)) (T := 0) (v := .pointer (some ⟨b, off + i * 6, none⟩)) rfl rfl rfl rfl (by kernel_rfl) (by kernel_rfl) (by kernel_rfl) (fun _ _ _ h => h) (by rfl) (fun w' _ => exec_ixE rfl rfl z1) hHeld ?_
              try simp only [Act.put, sI, sZ, sS]
              refine take_op (i := 7) (d := 53) (OP := Op.fieldAddr 53 (Operand.tmp 52) 1) (T := 0) (v := ?vsy5) rfl rfl rfl rfl (by kernel_rfl) (by kernel_rfl) (by kernel_rfl) (fun _ _ _ h => h) (by rfl) ?hsy5 hHeld ?rsy5
              case hsy5 => (intro w' hSw; (try dsimp only at hSw); go_simp <;> with_reducible rfl)
              try simp only [Act.put, sI, sZ, sS]
              refine take_op (i := 8) (d := 54) (OP := Op.load 9 (Operand.tmp 53)) (T := 9) (v := .string y) rfl rfl rfl rfl (by kernel_rfl) (by kernel_rfl) (by kernel_rfl) (fun _ _ _ h => h) (by rfl) (fun w' hSw => exec_ld9 rfl ((hSw.cell hbz).trans f5)) hHeld ?_
              try simp only [Act.put, sI, sZ, sS]
              refine take_op (i := 11) (d := 57) (OP := Op.move (Operand.tmp 3)) (T := 63) (v := ?vsy6) rfl rfl rfl rfl (by kernel_rfl) (by kernel_rfl) (by kernel_rfl) (fun _ _ _ h => h) (by rfl) ?hsy6 hHeld ?rsy6
              case hsy6 => (intro w' hSw; (try dsimp only at hSw); go_simp <;> with_reducible rfl)
              try simp only [Act.put, sI, sZ, sS]
              refine take_op (i := 12) (d := 58) (OP := Op.move (Operand.tmp 5)) (T := 3) (v := ?vsy7) rfl rfl rfl rfl (by kernel_rfl) (by kernel_rfl) (by kernel_rfl) (fun _ _ _ h => h) (by rfl) ?hsy7 hHeld ?rsy7
              case hsy7 => (intro w' hSw; (try dsimp only at hSw); go_simp <;> with_reducible rfl)
              try simp only [Act.put, sI, sZ, sS]
              refine take_op (i := 13) (d := 59) (OP := Op.slice 63 (Operand.tmp 57) (some (Operand.tmp 58)) none none) (T := 63) (v := .slice A2 (out.length - n) (c3 - n)) rfl rfl rfl rfl (by kernel_rfl) (by kernel_rfl) (by kernel_rfl) (fun _ _ _ h => h) (by rfl) (fun w' _ => exec_slL rfl rfl (r2 w')) hHeld ?_
              try simp only [Act.put, sI, sZ, sS]
              obtain ⟨v9, w9, run9, hO9, b9⟩ := hap1 W1 hHeld
              have hS9 : Below wz.heap.size wz w9 := hHeld.trans (b9.mono hHeld.size)
              have hSl : Below wz.heap.size wz (W1.alloc (.cells #[.string y] 9)) := hHeld.alloc hHeld.size _
              refine turn2_op (i := 3) (di := 49) (OPi := Op.call { callee := Callee.builtin Builtin.append, args := #[Operand.const (Value.slice none 0 0), Operand.tmp 48], argTypes := #[63, 63] }) (Ti := 63) (j := 9) (dj := 55) (OPj := Op.buildSlice 63 1 #[(0, Operand.tmp 54)]) (Tj := 63) (v := v9) (wi := w9) (u := .slice (some ⟨W1.heap.size, 0, none⟩) 1 1) (wj := W1.alloc (.cells #[.string y] 9)) rfl rfl rfl rfl rfl rfl rfl rfl (by kernel_rfl) (by rfl) (by rfl) (exec_append rfl rfl run9) (exec_bs9 rfl) hS9 hSl ?_ ?_
              · try simp only [Act.put, sI, sZ, sS]
                replace hHeld := hS9
                have hS8 : Below wz.heap.size wz (w9.alloc (.cells #[.string y] 9)) := hHeld.alloc hHeld.size _
                refine turn_op (i := 9) (d := 55) (OP := Op.buildSlice 63 1 #[(0, Operand.tmp 54)]) (T := 63) (v := .slice (some ⟨w9.heap.size, 0, none⟩) 1 1) (w' := w9.alloc (.cells #[.string y] 9)) rfl rfl rfl rfl (by kernel_rfl) (by rfl) (exec_bs9 rfl) hS8 ?_
                replace hHeld := hS8
                try simp only [Act.put, sI, sZ, sS]
                obtain ⟨v10, w10, run10, hO10, b10⟩ := hap2 (w9.alloc (.cells #[.string y] 9)) _ w9.heap.size hHeld (hO9.below ((Below.refl _ w9).alloc (Nat.le_refl _) _)) (mark_rs (heap_alloc_new w9 _))
                have hS10 := hHeld.trans b10
                refine turn_op (i := 10) (d := 56) (OP := Op.call { callee := Callee.builtin Builtin.append, args := #[Operand.tmp 49, Operand.tmp 55], argTypes := #[63, 63] }) (T := 63) (v := v10) (w' := w10) rfl rfl rfl rfl (by kernel_rfl) (by rfl) (exec_append rfl rfl run10) hS10 ?_
                replace hHeld := hS10
                try simp only [Act.put, sI, sZ, sS]
                obtain ⟨v11, w11, run11, hO11, b11⟩ := hap3 w10 _ hHeld hO10
                have hS11 := hHeld.trans b11
                refine turn_op (i := 14) (d := 60) (OP := Op.call { callee := Callee.builtin Builtin.append, args := #[Operand.tmp 56, Operand.tmp 59], argTypes := #[63, 63] }) (T := 63) (v := v11) (w' := w11) rfl rfl rfl rfl (by kernel_rfl) (by rfl) (exec_append rfl rfl run11) hS11 ?_
                replace hHeld := hS11
                try simp only [Act.put, sI, sZ, sS]
                refine take_op (i := 15) (d := 3) (OP := Op.assign (Operand.tmp 60)) (T := 63) (v := ?vsy8) rfl rfl rfl rfl (by kernel_rfl) (by kernel_rfl) (by kernel_rfl) (fun _ _ _ h => h) (by rfl) ?hsy8 hHeld ?rsy8
                case hsy8 => (intro w' hSw; (try dsimp only at hSw); go_simp <;> with_reducible rfl)
                try simp only [Act.put, sI, sZ, sS]
                refine wpAnyH_done (by kernel_rfl) ?_ _
                have H11 : Hid (Ot w11 w.heap.size v11 (shT (l.take (i + 1))) ∧ Below w.heap.size w w11) := hide ⟨by rw [HF.out]; exact hO11.lift (Nat.le_trans hsz HZ.out.size), (HW.out.trans (HZ.out.mono hsz)).trans (hS11.mono (Nat.le_trans hsz HZ.out.size))⟩
                clear hap1 hap2 hap3 r1 r2 f5 hO9 b9 run9 hO10 run10 b10 hO11 run11 b11
                go_wp2
                go_roundw
                case rel => exact ⟨i + 1, by go_num, by omega, hide H11.out.1, hide H11.out.2⟩
                case measure => simp [intOf]; omega
              · try simp only [Act.put, sI, sZ, sS]
                clear run9 hO9 b9 hS9 v9 w9
                replace hHeld := hSl
                obtain ⟨v9, w9, run9, hO9, b9⟩ := hap1 _ hHeld
                have hS9 : Below wz.heap.size wz w9 := hHeld.trans (b9.mono hHeld.size)
                refine turn_op (i := 3) (d := 49) (OP := Op.call { callee := Callee.builtin Builtin.append, args := #[Operand.const (Value.slice none 0 0), Operand.tmp 48], argTypes := #[63, 63] }) (T := 63) (v := v9) (w' := w9) rfl rfl rfl rfl (by kernel_rfl) (by rfl) (exec_append rfl rfl run9) hS9 ?_
                replace hHeld := hS9
                try simp only [Act.put, sI, sZ, sS]
                obtain ⟨v10, w10, run10, hO10, b10⟩ := hap2 w9 _ W1.heap.size hHeld hO9 ((mark_rs (heap_alloc_new W1 _)).below b9)
                have hS10 := hHeld.trans b10
                refine turn_op (i := 10) (d := 56) (OP := Op.call { callee := Callee.builtin Builtin.append, args := #[Operand.tmp 49, Operand.tmp 55], argTypes := #[63, 63] }) (T := 63) (v := v10) (w' := w10) rfl rfl rfl rfl (by kernel_rfl) (by rfl) (exec_append rfl rfl run10) hS10 ?_
                replace hHeld := hS10
                try simp only [Act.put, sI, sZ, sS]
                obtain ⟨v11, w11, run11, hO11, b11⟩ := hap3 w10 _ hHeld hO10
                have hS11 := hHeld.trans b11
                refine turn_op (i := 14) (d := 60) (OP := Op.call { callee := Callee.builtin Builtin.append, args := #[Operand.tmp 56, Operand.tmp 59], argTypes := #[63, 63] }) (T := 63) (v := v11) (w' := w11) rfl rfl rfl rfl (by kernel_rfl) (by rfl) (exec_append rfl rfl run11) hS11 ?_
                replace hHeld := hS11
                try simp only [Act.put, sI, sZ, sS]
                refine take_op (i := 15) (d := 3) (OP := Op.assign (Operand.tmp 60)) (T := 63) (v := ?vsy9) rfl rfl rfl rfl (by kernel_rfl) (by kernel_rfl) (by kernel_rfl) (fun _ _ _ h => h) (by rfl) ?hsy9 hHeld ?rsy9
                case hsy9 => (intro w' hSw; (try dsimp only at hSw); go_simp <;> with_reducible rfl)
                try simp only [Act.put, sI, sZ, sS]
                refine wpAnyH_done (by kernel_rfl) ?_ _
                have H11 : Hid (Ot w11 w.heap.size v11 (shT (l.take (i + 1))) ∧ Below w.heap.size w w11) := hide ⟨by rw [HF.out]; exact hO11.lift (Nat.le_trans hsz HZ.out.size), (HW.out.trans (HZ.out.mono hsz)).trans (hS11.mono (Nat.le_trans hsz HZ.out.size))⟩
                clear hap1 hap2 hap3 r1 r2 f5 hO9 b9 run9 hO10 run10 b10 hO11 run11 b11
                go_wp2
                go_roundw
                case rel => exact ⟨i + 1, by go_num, by omega, hide H11.out.1, hide H11.out.2⟩
                case measure => simp [intOf]; omega
        · have z2 : ¬ (n : Int) < (out.length : Int) := by omega
          have hno : n = out.length := by omega
          have hfin := insU_at y out n hn HA.out (fun z hz => by rw [hno] at hz; simp at hz)
          rw [if_neg (by rw [hno]; simp)] at hfin
          have HF := hide (HX.out.2.trans hfin)
          have eM : decide ((n : Int) = (out.length : Int)) = true := by rw [hno]; simp
          have bM : ((n : Int) == (out.length : Int)) = true := by rw [hno]; simp
          clear hfin hno
          go_upto_region 6 with fail
          go_quiet (fail)
          have HQ0 := hide (HI.out.trans ((below_drew wr nq).mono HI.out.size))
          generalize wr.drewN nq = w7 at HQ0 ⊢
          go_upto_region 8 with fail
          go_quiet (fail)
          have HQ := hide (HQ0.out.trans ((below_drew w7 nq).mono HQ0.out.size))
          generalize w7.drewN nq = wq at HQ ⊢
          clear HQ0
          have HZ := HQ
          obtain ⟨wz, hwz⟩ : ∃ q, wq = q := ⟨_, rfl⟩
          clear HQ
          go_upto_region 9 with fail
          rw [hwz] at HZ ⊢
          clear hwz
          obtain ⟨hro, hzc, hspot, hc3, -⟩ := ot_parts HO.out
          have hOz := hro.below HZ.out
          have hnl : n ≤ out.length := by omega
          have r1 := sliceT_hi (n := out.length) (c := c3) (j := n) (by omega) hspot
          have q1 := rs_takeT hOz n
          obtain ⟨A2, hA2⟩ : ∃ A : Option Addr, A = (if c3 - n = 0 then ao3 else (ao3 : Option Addr).map (fun x => x.add n)) := ⟨_, rfl⟩
          have r2 := sliceT_lo (ao := ao3) (n := out.length) (c := c3) (j := n) hnl hc3
          rw [← hA2] at r2
          have q2 := rs_dropT hOz hspot hc3 hA2
          have m2 := none_of hA2 hzc
          obtain ⟨b', off', e', f0, f1, f2, f3, f4, f5⟩ := (HR.out.below HZ.out).cells HX.out.1
          injection e' with e'
          injection e' with e1 e2
          subst e1 e2
          simp only at f5
          have hbz : b < wz.heap.size := World.block_lt_of_cell? _ _ f5
          clear f0 f1 f2 f3 f4
          have hl1 : (out.take n).length = n := by rw [List.length_take]; omega
          have hl2 : (out.drop n).length = out.length - n := by rw [List.length_drop]
          have hap1 : ∀ W, Below wz.heap.size wz W → ∃ v9 w9, (Builtin.append_ #[63, 63] 63 #[.slice none 0 0, .slice ao3 n c3]).run Tryz.prog W = .ok v9 w9 ∧ Ot w9 wz.heap.size v9 (out.take n) ∧ Below W.heap.size W w9 := fun W hW => by
            obtain ⟨a', c', w', h1, h2, h3⟩ := app_texts (Ot.nil W W.heap.size) hzc (q1.below hW) (by simp; omega) (Nat.le_refl _)
            rw [hl1] at h1
            exact ⟨_, w', h1, h2.lift hW.size, h3⟩
          have hap2 : ∀ (W : World) (v : Value) (R : Nat), Below wz.heap.size wz W → Ot W wz.heap.size v (out.take n) → Rs W (some ⟨R, 0, none⟩) [y] → ∃ v9 w9, (Builtin.append_ #[63, 63] 63 #[v, .slice (some ⟨R, 0, none⟩) 1 1]).run Tryz.prog W = .ok v9 w9 ∧ Ot w9 wz.heap.size v9 (out.take n ++ [y]) ∧ Below wz.heap.size W w9 := fun W v R hW ho hr => by
            obtain ⟨a', c', w', h1, h2, h3⟩ := app_texts (c := 1) ho (by simp) hr (by simp; omega) hW.size
            exact ⟨_, w', h1, h2, h3⟩
          have hap3 : ∀ (W : World) (v : Value), Below wz.heap.size wz W → Ot W wz.heap.size v (out.take n ++ [y]) → ∃ v9 w9, (Builtin.append_ #[63, 63] 63 #[v, .slice A2 (out.length - n) (c3 - n)]).run Tryz.prog W = .ok v9 w9 ∧ Ot w9 wz.heap.size v9 (out.take n ++ [y] ++ out.drop n) ∧ Below wz.heap.size W w9 := fun W v hW ho => by
            obtain ⟨a', c', w', h1, h2, h3⟩ := app_texts (c := c3 - n) ho m2 (q2.below hW) (by simp; omega) hW.size
            rw [hl2] at h1
            exact ⟨_, w', h1, h2, h3⟩
          clear hro hOz q1 q2 m2 hl1 hl2 hspot hzc hA2
          refine wp_region_held_drew (S := (fun w' => Below wz.heap.size wz w')) (by kernel_rfl) (by exact (Below.refl _ wz).drew) (fun hHeld => ?_)
          try dsimp only at hHeld
          generalize wz.drew = W1 at hHeld ⊢
          refine take_op (i := 0) (d := 46) (OP := Op.move (Operand.tmp 3)) (T := 63) (v := ?vsy10) rfl rfl rfl rfl (by kernel_rfl) (by kernel_rfl) (by kernel_rfl) (fun _ _ _ h => h) (by rfl) ?hsy10 hHeld ?rsy10
          case hsy10 => (intro w' hSw; (try dsimp only at hSw); go_simp <;> with_reducible rfl)
          try simp only [Act.put, sI, sZ, sS]
          refine take_op (i := 1) (d := 47) (OP := Op.move (Operand.tmp 5)) (T := 3) (v := ?vsy11) rfl rfl rfl rfl (by kernel_rfl) (by kernel_rfl) (by kernel_rfl) (fun _ _ _ h => h) (by rfl) ?hsy11 hHeld ?rsy11
          case hsy11 => (intro w' hSw; (try dsimp only at hSw); go_simp <;> with_reducible rfl)
          try simp only [Act.put, sI, sZ, sS]
          refine take_op (i := 2) (d := 48) (OP := Op.slice 63 (Operand.tmp 46) none (some (Operand.tmp 47)) none) (T := 63) (v := .slice ao3 n c3) rfl rfl rfl rfl (by kernel_rfl) (by kernel_rfl) (by kernel_rfl) (fun _ _ _ h => h) (by rfl) (fun w' _ => exec_slT rfl rfl (r1 w')) hHeld ?_
          try simp only [Act.put, sI, sZ, sS]
          refine take_op (i := 4) (d := 50) (OP := Op.move (Operand.tmp 0)) (T := 22) (v := ?vsy12) rfl rfl rfl rfl (by kernel_rfl) (by kernel_rfl) (by kernel_rfl) (fun _ _ _ h => h) (by rfl) ?hsy12 hHeld ?rsy12
          case hsy12 => (intro w' hSw; (try dsimp only at hSw); go_simp <;> with_reducible rfl)
          try simp only [Act.put, sI, sZ, sS]
          refine take_op (i := 5) (d := 51) (OP := Op.move (Operand.tmp 4)) (T := 3) (v := ?vsy13) rfl rfl rfl rfl (by kernel_rfl) (by kernel_rfl) (by kernel_rfl) (fun _ _ _ h => h) (by rfl) ?hsy13 hHeld ?rsy13
          case hsy13 => (intro w' hSw; (try dsimp only at hSw); go_simp <;> with_reducible rfl)
          try simp only [Act.put, sI, sZ, sS]
          refine take_op (i := 6) (d := 52) (OP := Op.indexAddr 22 (Operand.tmp 50) (Operand.tmp 51)) (T := 0) (v := .pointer (some ⟨b, off + i * 6, none⟩)) rfl rfl rfl rfl (by kernel_rfl) (by kernel_rfl) (by kernel_rfl) (fun _ _ _ h => h) (by rfl) (fun w' _ => exec_ixE rfl rfl z1) hHeld ?_
          try simp only [Act.put, sI, sZ, sS]
          refine take_op (i := 7) (d := 53) (OP := Op.fieldAddr 53 (Operand.tmp 52) 1) (T := 0) (v := ?vsy14) rfl rfl rfl rfl (by kernel_rfl) (by kernel_rfl) (by kernel_rfl) (fun _ _ _ h => h) (by rfl) ?hsy14 hHeld ?rsy14
          case hsy14 => (intro w' hSw; (try dsimp only at hSw); go_simp <;> with_reducible rfl)
          try simp only [Act.put, sI, sZ, sS]
          refine take_op (i := 8) (d := 54) (OP := Op.load 9 (Operand.tmp 53)) (T := 9) (v := .string y) rfl rfl rfl rfl (by kernel_rfl) (by kernel_rfl) (by kernel_rfl) (fun _ _ _ h => h) (by rfl) (fun w' hSw => exec_ld9 rfl ((hSw.cell hbz).trans f5)) hHeld ?_
          try simp only [Act.put, sI, sZ, sS]
          refine take_op (i := 11) (d := 57) (OP := Op.move (Operand.tmp 3)) (T := 63) (v := ?vsy15) rfl rfl rfl rfl (by kernel_rfl) (by kernel_rfl) (by kernel_rfl) (fun _ _ _ h => h) (by rfl) ?hsy15 hHeld ?rsy15
          case hsy15 => (intro w' hSw; (try dsimp only at hSw); go_simp <;> with_reducible rfl)
          try simp only [Act.put, sI, sZ, sS]
          refine take_op (i := 12) (d := 58) (OP := Op.move (Operand.tmp 5)) (T := 3) (v := ?vsy16) rfl rfl rfl rfl (by kernel_rfl) (by kernel_rfl) (by kernel_rfl) (fun _ _ _ h => h) (by rfl) ?hsy16 hHeld ?rsy16
          case hsy16 => (intro w' hSw; (try dsimp only at hSw); go_simp <;> with_reducible rfl)
          try simp only [Act.put, sI, sZ, sS]
          refine take_op (i := 13) (d := 59) (OP := Op.slice 63 (Operand.tmp 57) (some (Operand.tmp 58)) none none) (T := 63) (v := .slice A2 (out.length - n) (c3 - n)) rfl rfl rfl rfl (by kernel_rfl) (by kernel_rfl) (by kernel_rfl) (fun _ _ _ h => h) (by rfl) (fun w' _ => exec_slL rfl rfl (r2 w')) hHeld ?_
          try simp only [Act.put, sI, sZ, sS]
          obtain ⟨v9, w9, run9, hO9, b9⟩ := hap1 W1 hHeld
          have hS9 : Below wz.heap.size wz w9 := hHeld.trans (b9.mono hHeld.size)
          have hSl : Below wz.heap.size wz (W1.alloc (.cells #[.string y] 9)) := hHeld.alloc hHeld.size _
          refine turn2_op (i := 3) (di := 49) (OPi := Op.call { callee := Callee.builtin Builtin.append, args := #[Operand.const (Value.slice none 0 0), Operand.tmp 48], argTypes := #[63, 63] }) (Ti := 63) (j := 9) (dj := 55) (OPj := Op.buildSlice 63 1 #[(0, Operand.tmp 54)]) (Tj := 63) (v := v9) (wi := w9) (u := .slice (some ⟨W1.heap.size, 0, none⟩) 1 1) (wj := W1.alloc (.cells #[.string y] 9)) rfl rfl rfl rfl rfl rfl rfl rfl (by kernel_rfl) (by rfl) (by rfl) (exec_append rfl rfl run9) (exec_bs9 rfl) hS9 hSl ?_ ?_
          · try simp only [Act.put, sI, sZ, sS]
            replace hHeld := hS9
            have hS8 : Below wz.heap.size wz (w9.alloc (.cells #[.string y] 9)) := hHeld.alloc hHeld.size _
            refine turn_op (i := 9) (d := 55) (OP := Op.buildSlice 63 1 #[(0, Operand.tmp 54)]) (T := 63) (v := .slice (some ⟨w9.heap.size, 0, none⟩) 1 1) (w' := w9.alloc (.cells #[.string y] 9)) rfl rfl rfl rfl (by kernel_rfl) (by rfl) (exec_bs9 rfl) hS8 ?_
            replace hHeld := hS8
            try simp only [Act.put, sI, sZ, sS]
            obtain ⟨v10, w10, run10, hO10, b10⟩ := hap2 (w9.alloc (.cells #[.string y] 9)) _ w9.heap.size hHeld (hO9.below ((Below.refl _ w9).alloc (Nat.le_refl _) _)) (mark_rs (heap_alloc_new w9 _))
            have hS10 := hHeld.trans b10
            refine turn_op (i := 10) (d := 56) (OP := Op.call { callee := Callee.builtin Builtin.append, args := #[Operand.tmp 49, Operand.tmp 55], argTypes := #[63, 63] }) (T := 63) (v := v10) (w' := w10) rfl rfl rfl rfl (by kernel_rfl) (by rfl) (exec_append rfl rfl run10) hS10 ?_
            replace hHeld := hS10
            try simp only [Act.put, sI, sZ, sS]
            obtain ⟨v11, w11, run11, hO11, b11⟩ := hap3 w10 _ hHeld hO10
            have hS11 := hHeld.trans b11
            refine turn_op (i := 14) (d := 60) (OP := Op.call { callee := Callee.builtin Builtin.append, args := #[Operand.tmp 56, Operand.tmp 59], argTypes := #[63, 63] }) (T := 63) (v := v11) (w' := w11) rfl rfl rfl rfl (by kernel_rfl) (by rfl) (exec_append rfl rfl run11) hS11 ?_
            replace hHeld := hS11
            try simp only [Act.put, sI, sZ, sS]
            refine take_op (i := 15) (d := 3) (OP := Op.assign (Operand.tmp 60)) (T := 63) (v := ?vsy17) rfl rfl rfl rfl (by kernel_rfl) (by kernel_rfl) (by kernel_rfl) (fun _ _ _ h => h) (by rfl) ?hsy17 hHeld ?rsy17
            case hsy17 => (intro w' hSw; (try dsimp only at hSw); go_simp <;> with_reducible rfl)
            try simp only [Act.put, sI, sZ, sS]
            refine wpAnyH_done (by kernel_rfl) ?_ _
            have H11 : Hid (Ot w11 w.heap.size v11 (shT (l.take (i + 1))) ∧ Below w.heap.size w w11) := hide ⟨by rw [HF.out]; exact hO11.lift (Nat.le_trans hsz HZ.out.size), (HW.out.trans (HZ.out.mono hsz)).trans (hS11.mono (Nat.le_trans hsz HZ.out.size))⟩
            clear hap1 hap2 hap3 r1 r2 f5 hO9 b9 run9 hO10 run10 b10 hO11 run11 b11
            go_wp2
            go_roundw
            case rel => exact ⟨i + 1, by go_num, by omega, hide H11.out.1, hide H11.out.2⟩
            case measure => simp [intOf]; omega
          · try simp only [Act.put, sI, sZ, sS]
            clear run9 hO9 b9 hS9 v9 w9
            replace hHeld := hSl
            obtain ⟨v9, w9, run9, hO9, b9⟩ := hap1 _ hHeld
            have hS9 : Below wz.heap.size wz w9 := hHeld.trans (b9.mono hHeld.size)
            refine turn_op (i := 3) (d := 49) (OP := Op.call { callee := Callee.builtin Builtin.append, args := #[Operand.const (Value.slice none 0 0), Operand.tmp 48], argTypes := #[63, 63] }) (T := 63) (v := v9) (w' := w9) rfl rfl rfl rfl (by kernel_rfl) (by rfl) (exec_append rfl rfl run9) hS9 ?_
            replace hHeld := hS9
            try simp only [Act.put, sI, sZ, sS]
            obtain ⟨v10, w10, run10, hO10, b10⟩ := hap2 w9 _ W1.heap.size hHeld hO9 ((mark_rs (heap_alloc_new W1 _)).below b9)
            have hS10 := hHeld.trans b10
            refine turn_op (i := 10) (d := 56) (OP := Op.call { callee := Callee.builtin Builtin.append, args := #[Operand.tmp 49, Operand.tmp 55], argTypes := #[63, 63] }) (T := 63) (v := v10) (w' := w10) rfl rfl rfl rfl (by kernel_rfl) (by rfl) (exec_append rfl rfl run10) hS10 ?_
            replace hHeld := hS10
            try simp only [Act.put, sI, sZ, sS]
            obtain ⟨v11, w11, run11, hO11, b11⟩ := hap3 w10 _ hHeld hO10
            have hS11 := hHeld.trans b11
            refine turn_op (i := 14) (d := 60) (OP := Op.call { callee := Callee.builtin Builtin.append, args := #[Operand.tmp 56, Operand.tmp 59], argTypes := #[63, 63] }) (T := 63) (v := v11) (w' := w11) rfl rfl rfl rfl (by kernel_rfl) (by rfl) (exec_append rfl rfl run11) hS11 ?_
            replace hHeld := hS11
            try simp only [Act.put, sI, sZ, sS]
            refine take_op (i := 15) (d := 3) (OP := Op.assign (Operand.tmp 60)) (T := 63) (v := ?vsy18) rfl rfl rfl rfl (by kernel_rfl) (by kernel_rfl) (by kernel_rfl) (fun _ _ _ h => h) (by rfl) ?hsy18 hHeld ?rsy18
            case hsy18 => (intro w' hSw; (try dsimp only at hSw); go_simp <;> with_reducible rfl)
            try simp only [Act.put, sI, sZ, sS]
            refine wpAnyH_done (by kernel_rfl) ?_ _
            have H11 : Hid (Ot w11 w.heap.size v11 (shT (l.take (i + 1))) ∧ Below w.heap.size w w11) := hide ⟨by rw [HF.out]; exact hO11.lift (Nat.le_trans hsz HZ.out.size), (HW.out.trans (HZ.out.mono hsz)).trans (hS11.mono (Nat.le_trans hsz HZ.out.size))⟩
            clear hap1 hap2 hap3 r1 r2 f5 hO9 b9 run9 hO10 run10 b10 hO11 run11 b11
            go_wp2
            go_roundw
            case rel => exact ⟨i + 1, by go_num, by omega, hide H11.out.1, hide H11.out.2⟩
            case measure => simp [intOf]; omega
    · have z1 : ¬ (i : Int) < (N : Int) := by omega
      have hE : l.take i = l := List.take_of_length_le (by rw [← H.out.1]; omega)
      have HE := hide hE
      clear hE
      go_wp2
      go_ret
      exact ⟨_, rfl, by have h4 := HO.out; rw [HE.out] at h4; exact h4, HW.out⟩
end Go.Proofs.YtkkpdgfllnbigaaGreat.Tg
