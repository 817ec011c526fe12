/-
  register: going over a map that may not be tells nothing (goes 48).
  Going over a map tells its elements (goes 52).
  tagset: the document's Tags (117) and SameStamps (116).
  tagset: what going over a set tells is what the document's own functions tell of its elements.
  The law RegisterMaps (7), walked: its maps are built by Put, asked by Get, and what may not be is refused by every call.
  register: the document's Fits (39), the law's texts (82).
  register: a register tells just these elements (stands 41).
-/
import Derived.Test.YtkkpdgfllnbigaaGreatMg14
import Derived.Test.YtkkpdgfllnbigaaGreatMg11
import Derived.Test.YtkkpdgfllnbigaaGreatTgTx
import Derived.Test.YtkkpdgfllnbigaaGreatMg21
import Derived.Test.YtkkpdgfllnbigaaGreatTgT3
import Derived.Test.YtkkpdgfllnbigaaGreatMg22
import Derived.Test.YtkkpdgfllnbigaaGreatMg23
import Derived.Test.YtkkpdgfllnbigaaGreatMg15
import Derived.Test.YtkkpdgfllnbigaaGreatMg18
namespace Go.Proofs.YtkkpdgfllnbigaaGreat
open Go.RowKit Go.Shelf
set_option linter.unusedSimpArgs false
attribute [local go_sem] Oper.semAt_some

end Go.Proofs.YtkkpdgfllnbigaaGreat
namespace Go.Proofs.YtkkpdgfllnbigaaGreat
open Go.RowKit Go.Shelf
set_option linter.unusedSimpArgs false
attribute [local go_sem] Oper.semAt_some

theorem run_ne43 (s t : St) (w : World) : (binOp .neq 43 (svT s) (svT t)).run Tryz.prog w = .ok (.bool (!decide (s = t))) w := by
  obtain ⟨g, r, l, n, i⟩ := s
  obtain ⟨g', r', l', n', i'⟩ := t
  have h := sameE_dec ((g, r, l, n, i), ⟨#[]⟩) ((g', r', l', n', i'), ⟨#[]⟩)
  show (binOp .neq 43 (sv g r l n i) (sv g' r' l' n' i')).run Tryz.prog w = _
  rw [run_neq_struct, show (10000 : Nat) = 9996 + 4 from rfl, equalIn52]
  simp only [sameE] at h
  have e : decide (((g, r, l, n, i) : St) = (g', r', l', n', i')) = decide ((((g, r, l, n, i), (⟨#[]⟩ : ByteArray)) : El) = ((g', r', l', n', i'), ⟨#[]⟩)) := by
    rw [decide_eq_decide]
    simp
  rw [e, ← h]
  simp
end Go.Proofs.YtkkpdgfllnbigaaGreat
namespace Go.Proofs.YtkkpdgfllnbigaaGreat.Tg
open Go.RowKit Go.Shelf
set_option linter.unusedSimpArgs false
set_option linter.unusedVariables false
attribute [local go_sem] Oper.semAt_some

theorem stL_step {l : List El} {i : Nat} {x : El} (X : ByteArray) (h : l[i]? = some x) : stL X (l.take (i + 1)) = stL X (l.take i) ++ (if x.2 = X then [x.1] else []) := by
  rw [List.take_add_one, h]
  unfold stL
  simp only [Option.toList, List.filter_append, List.map_append]
  congr 1
  by_cases hp : x.2 = X <;> simp [hp]
theorem stL_len (X : ByteArray) (l : List El) : (stL X l).length ≤ l.length := by
  unfold stL
  rw [List.length_map]
  exact List.length_filter_le _ _
set_option maxHeartbeats 4000000 in
set_option maxRecDepth 100000 in
theorem tags117 {w : World} {ao : Option Addr} {c : Nat} (l : List El) (X : ByteArray) (h : Re w ao l) (hl : l.length ≤ 100000) : Calls Tryz.prog 117 #[.slice ao l.length c, .string X] w fun e w' => ∃ v, e = .returned v ∧ Ov w' w.heap.size v (stL X l) ∧ Below w.heap.size w w' := by
  obtain ⟨N, hN⟩ : ∃ N, N = l.length := ⟨_, rfl⟩
  rw [← hN] at hl ⊢
  have H := hide (And.intro hN h)
  clear hN h
  go_enter Tryz.func117, Tryz.ntmps117
  go_wp2
  go_loopw [5, 6] (fun v5 v6 wr => ∃ i : Nat, i ≤ N ∧ v6 = .int .i64 i ∧ Hid (Ov wr w.heap.size v5 (stL X (l.take i)) ∧ Below w.heap.size w wr)) (fun _ v6 _ => N - (intOf v6).toNat)
  case atStart => exact ⟨0, Nat.zero_le _, rfl, hide ⟨Ov.nil _ _, Below.refl _ _⟩⟩
  case round =>
    obtain ⟨i, hi, rfl, HO⟩ := hrel
    by_cases hgo : i < N
    · have z1 : (i : Int) < (N : Int) := by omega
      have d1 : decide (i < N) = true := by simpa using hgo
      obtain ⟨x, hx⟩ : ∃ x, l[i]? = some x := ⟨_, List.getElem?_eq_getElem (by rw [← H.out.1]; exact hgo)⟩
      obtain ⟨b, off, hao, q0, q1, q2, q3, q4, q5⟩ := (H.out.2.below HO.out.2).cells hx
      have hst := stL_step X hx
      have hlen := stL_len X (l.take i)
      rw [List.length_take] at hlen
      subst hao
      obtain ⟨⟨g, r, lb, n, ix⟩, y⟩ := x
      dsimp only at q0 q1 q2 q3 q4 q5 hst
      clear hx
      by_cases hyX : y = X
      · rw [if_pos hyX] at hst
        have bq : (y.toList == X.toList) = true := by rw [bytes_same]; exact hyX
        obtain ⟨p, hp⟩ : ∃ p, p = stL X (l.take i) := ⟨_, rfl⟩
        rw [← hp] at HO hst hlen
        obtain ⟨W3, hW3⟩ : ∃ q, q = wr.alloc (.cells #[.int .i64 g, .int .i64 r, .string lb, .int .i64 n, .int .i64 ix] 43) := ⟨_, rfl⟩
        have m3 := heap_alloc_new wr (.cells #[.int .i64 g, .int .i64 r, .string lb, .int .i64 n, .int .i64 ix] 43)
        have b3 : Below wr.heap.size wr W3 := by rw [hW3]; exact (Below.refl _ wr).alloc (Nat.le_refl _) _
        rw [← hW3] at m3
        have hsz := HO.out.2.size
        obtain ⟨a', c', w8, hr, hO8, ho8, -⟩ := push_OvW (y := (g, r, lb, n, ix)) (HO.out.1.below b3) m3 (by omega) (Nat.le_trans hsz b3.size)
        have b8 : Below w.heap.size w w8 := Below.only (HO.out.2.trans (b3.mono hsz)) ho8 (Nat.le_trans hsz b3.size) (fun j e => (World.ownsRow.lt (HO.out.1.below b3) j e).1)
        have H8 : Hid (Ov w8 w.heap.size (.slice a' (p.length + 1) c') (stL X (l.take (i + 1))) ∧ Below w.heap.size w w8) := hide ⟨by rw [hst]; exact hO8, b8⟩
        rw [hW3] at hr
        clear hst hp hlen HO m3 b3 hW3 hO8 ho8 b8 hsz hyX
        go_wp2_with (at_builtin; refine wpList_turn (OP := .call { callee := .builtin .append, args := #[.tmp 20, .tmp 26], argTypes := #[71, 71] }) (T := 71) rfl rfl rfl (exec_append rfl rfl hr) ?_)
        go_roundw
        case rel => exact ⟨i + 1, by omega, by go_num, hide H8.out⟩
        case measure => simp [intOf]; omega
      · rw [if_neg hyX, List.append_nil] at hst
        have bq : (y.toList == X.toList) = false := by rw [Bool.eq_false_iff, Ne, bytes_same]; exact hyX
        have H8 : Hid (Ov wr w.heap.size u5 (stL X (l.take (i + 1))) ∧ Below w.heap.size w wr) := hide ⟨by rw [hst]; exact HO.out.1, HO.out.2⟩
        clear hst hlen HO hyX
        go_wp2
        go_roundw
        case rel => exact ⟨i + 1, by omega, by go_num, hide H8.out⟩
        case measure => simp [intOf]; omega
    · have z1 : ¬ (i : Int) < (N : Int) := by omega
      have d1 : decide (i < N) = false := by simpa using hgo
      have hE : l.take i = l := List.take_of_length_le (by rw [← H.out.1]; omega)
      have HE := hide hE
      clear hE
      go_wp2
      go_ret
      exact ⟨_, rfl, by have h4 := HO.out.1; rw [HE.out] at h4; exact h4, HO.out.2⟩
set_option maxHeartbeats 4000000 in
set_option maxRecDepth 100000 in
theorem same116 {w : World} {ao bo : Option Addr} {c d : Nat} {l : List St} (h : Rv w ao l) (k : Rv w bo l) (hl : l.length ≤ 1000000) : Calls Tryz.prog 116 #[.slice ao l.length c, .slice bo l.length d] w fun e w' => e = .returned (.bool true) ∧ ∃ n, w' = w.drewN n := by
  obtain ⟨N, hN⟩ : ∃ N, N = l.length := ⟨_, rfl⟩
  rw [← hN] at hl ⊢
  have H := hide (And.intro hN (And.intro h k))
  clear hN h k
  go_enter Tryz.func116, Tryz.ntmps116
  go_wp2
  go_loopw [5] (fun iv wr => ∃ i : Nat, i ≤ N ∧ iv = .int .i64 i ∧ ∃ n, wr = w.drewN n) (fun iv _ => N - (intOf iv).toNat)
  case atStart => exact ⟨0, by omega, rfl, 0, rfl⟩
  case round =>
    obtain ⟨i, hi, rfl, n, hwr⟩ := hrel
    have hlr : Rv wr ao l := by rw [hwr]; exact ⟨H.out.2.1.1, H.out.2.1.2⟩
    have hmr : Rv wr bo l := by rw [hwr]; exact ⟨H.out.2.2.1, H.out.2.2.2⟩
    have HWR := hide hwr
    clear hwr
    by_cases h1 : i < N
    · have z1 : (i : Int) < (N : Int) := by omega
      have d1 : decide (i < N) = true := by simpa using h1
      obtain ⟨x, hx⟩ : ∃ x, l[i]? = some x := ⟨_, List.getElem?_eq_getElem (by rw [← H.out.1]; exact h1)⟩
      obtain ⟨ab, off, rfl, q0, q1, q2, q3, q4⟩ := hlr.cells hx
      obtain ⟨bb, ob, rfl, p0, p1, p2, p3, p4⟩ := hmr.cells hx
      have hne := fun W => run_ne43 x x W
      rw [decide_eq_true rfl] at hne
      clear hx hlr hmr
      obtain ⟨g, r, l0, n0, i0⟩ := x
      dsimp only at q0 q1 q2 q3 q4 p0 p1 p2 p3 p4 hne
      go_wp2
      go_quiet (fail)
      go_wp2
      go_roundw
      case rel => exact ⟨i + 1, by omega, by go_num, _, by rw [HWR.out, World.drewN_drewN]⟩
      case measure => simp [intOf]; omega
    · obtain rfl : N = i := by omega
      have d1 : decide (N < N) = false := by simp
      go_wp2
      go_ret
      exact ⟨rfl, n, HWR.out⟩
end Go.Proofs.YtkkpdgfllnbigaaGreat.Tg
namespace Go.Proofs.YtkkpdgfllnbigaaGreat.Tg
open Go.RowKit Go.Shelf
set_option linter.unusedSimpArgs false
set_option linter.unusedVariables false

theorem elsT_mem {l : List Kv} (z : El) : z ∈ elsT l ↔ z ∈ tagsL l := (srtQ_perm _).mem_iff
theorem elsT_up {l : List Kv} (hs : Pm.Srt l) : UpQ (elsT l) := srtQ_up (tagsL_nodup hs)
theorem upT_of {X : ByteArray} {l : List El} (h : l.Pairwise fun a b => a.2 = X → b.2 = X → cmpT a.1 b.1 = -1) : Rise.Up cmpT id (stL X l) := by
  unfold stL
  rw [Rise.Up, List.pairwise_map, List.pairwise_filter]
  refine h.imp fun {a b} hab ha hb => hab (by simpa using ha) (by simpa using hb)
theorem stL_mem {X : ByteArray} {l : List El} (s : St) : s ∈ stL X l ↔ (s, X) ∈ l := by
  unfold stL
  rw [List.mem_map]
  constructor
  · rintro ⟨⟨a, b⟩, h, rfl⟩
    have h2 := List.mem_filter.1 h
    have h3 : b = X := by simpa using h2.2
    subst h3
    exact h2.1
  · intro h
    exact ⟨(s, X), List.mem_filter.2 ⟨h, by simp⟩, rfl⟩
theorem stL_els {l : List Kv} (X : ByteArray) (hm : mayT l = true) (hs : Pm.Srt l) : stL X (tagsL l) = stL X (elsT l) := by
  have hu := tags_upX hm hs
  have he : tagsL l = l.map tgE := by rw [tagsL, if_pos hm]
  refine Rise.Up.same ordS_T (upT_of ?_) (upT_of ?_) (fun z => ?_)
  · rw [he]
    refine hu.imp fun {a b} hab ha hb => ?_
    dsimp only [id, cmpX] at hab
    rwa [if_pos ((cmpB_eq_iff _ _).2 (ha.trans hb.symm))] at hab
  · refine (elsT_up hs).imp fun {a b} hab ha hb => ?_
    dsimp only [id, cmpQ] at hab
    by_cases h : cmpT a.1 b.1 = 0
    · rw [if_pos h, (cmpB_eq_iff _ _).2 (ha.trans hb.symm)] at hab
      exact absurd hab (by decide)
    · rwa [if_neg h] at hab
  · rw [stL_mem, stL_mem, elsT_mem]
theorem tx_le {l : List Kv} (hm : mayT l = true) (hs : Pm.Srt l) : (tagsL l).Pairwise fun a b => Pm.cmpB a.2 b.2 ≤ 0 := by
  have hu := tags_upX hm hs
  have he : tagsL l = l.map tgE := by rw [tagsL, if_pos hm]
  rw [he]
  refine hu.imp fun {a b} hab => ?_
  dsimp only [id, cmpX] at hab
  by_cases h : Pm.cmpB a.2 b.2 = 0
  · omega
  · rw [if_neg h] at hab; omega
theorem gA_els {l : List Kv} (hm : mayT l = true) (hs : Pm.Srt l) : gA [] (tagsL l) = (shT (elsT l)).map fun X => (X, stL X (elsT l)) := by
  rw [gA_all ordS_B (tx_le hm hs)]
  have h1 : Rise.compact ((tagsL l).map Prod.snd) = shT (elsT l) := by
    refine Rise.shows_same ordS_B ?_ (fun z => ?_)
    · rw [List.pairwise_map]; exact tx_le hm hs
    · simp only [List.mem_map, elsT_mem]
  rw [h1]
  exact List.map_congr_left fun X _ => by rw [stL_els X hm hs]
theorem txL_els {l : List Kv} (hm : mayT l = true) (hs : Pm.Srt l) : txL l = shT (elsT l) := by
  unfold txL
  rw [gA_els hm hs, List.map_map]
  simp [Function.comp_def]
theorem els_n {w : World} {t : Pm.T} (h : Mg w t) (hm : mayT t.list = true) : (elsT t.list).length = t.n := by
  rw [elsT_len, tagsL, if_pos hm, List.length_map, Pm.T.n_eq]
end Go.Proofs.YtkkpdgfllnbigaaGreat.Tg
namespace Go.Proofs.YtkkpdgfllnbigaaGreat
open Go.RowKit Go.Shelf
set_option linter.unusedSimpArgs false
attribute [local go_sem] Oper.semAt_some

/-- A slice of pairs of strings. -/
def Rp (w : World) (ao : Option Addr) (l : List Kv) : Prop := ∀ k x, l[k]? = some x → ∃ b off, ao = some ⟨b, off, none⟩ ∧ w.cell? ⟨b, off + k * 2, none⟩ = some (.string x.1) ∧ w.cell? ⟨b, off + k * 2 + 1, none⟩ = some (.string x.2)
theorem Rp.below {w w' : World} {ao : Option Addr} {l : List Kv} (h : Rp w ao l) (hb : Below w.heap.size w w') : Rp w' ao l := fun k x hx => by
  obtain ⟨b, off, e, h1, h2⟩ := h k x hx
  exact ⟨b, off, e, cell_stays h1 hb, cell_stays h2 hb⟩
theorem Ot.form {w : World} {B : Nat} {v : Value} {L : List ByteArray} (h : Ot w B v L) : ∃ ao c, v = .slice ao L.length c := by
  rcases h with ⟨h1, h2⟩
  rcases h2 with ⟨e, e2⟩ | ⟨g, cap, cur, e, -⟩
  · exact ⟨none, 0, by rw [e, e2]⟩
  · exact ⟨_, _, e⟩
end Go.Proofs.YtkkpdgfllnbigaaGreat
namespace Go.Proofs.YtkkpdgfllnbigaaGreat
open Go.RowKit Go.Shelf
set_option linter.unusedSimpArgs false
attribute [local go_sem] Oper.semAt_some

end Go.Proofs.YtkkpdgfllnbigaaGreat
namespace Go.Proofs.YtkkpdgfllnbigaaGreat
open Go.RowKit Go.Shelf
set_option linter.unusedSimpArgs false
attribute [local go_sem] Oper.semAt_some

end Go.Proofs.YtkkpdgfllnbigaaGreat
