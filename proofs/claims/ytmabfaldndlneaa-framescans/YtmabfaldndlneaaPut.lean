/-
  WALKS over the frame layer's mayBe, PutAll, Put.
-/
import Derived.Test.YtmabfaldndlneaaRef
import Derived.LoopN
namespace Go.Proofs.Ytmabfaldndlneaa
open Go.RowKit Go.Shelf Crc
set_option linter.unusedSimpArgs false

/-- A frame's cells: its kind, and where its body lies. -/
structure Cel where
  kind : Int
  at' : Option Addr
  len : Nat
  cap : Nat
def okK (m : Cel) : Bool := decide (0 ≤ m.kind) && decide (m.kind ≤ 255)
def okL (m : Cel) : Bool := decide (m.len ≤ 16777216)
def mb (M : List Cel) : Int := if M.all okK then (if M.all okL then 0 else 3) else 2
def Cels (w : World) (g : Nat) (M : List Cel) : Prop := ∀ i m, M[i]? = some m → w.cell? ⟨g, i * 2, none⟩ = some (.int .i64 m.kind) ∧ w.cell? ⟨g, i * 2 + 1, none⟩ = some (.slice m.at' m.len m.cap)
theorem Cels.below {w w' : World} {g : Nat} {M : List Cel} (h : Cels w g M) (k : Below w.heap.size w w') : Cels w' g M := fun i m hm => by
  obtain ⟨h1, h2⟩ := h i m hm
  exact ⟨(k.cell (World.block_lt_of_cell? _ _ h1)).trans h1, (k.cell (World.block_lt_of_cell? _ _ h2)).trans h2⟩
theorem all_snoc {M : List Cel} {f : Cel → Bool} {k : Nat} {m : Cel} (hm : M[k]? = some m) (h : (M.take k).all f = true) (hf : f m = true) : (M.take (k + 1)).all f = true := by
  obtain ⟨hk, rfl⟩ := List.getElem?_eq_some_iff.1 hm
  rw [List.take_succ_eq_append_getElem hk, List.all_append, h]
  simpa using hf
theorem all_not {M : List Cel} {f : Cel → Bool} {k : Nat} {m : Cel} (hm : M[k]? = some m) (hf : f m = false) : M.all f = false := by
  rw [List.all_eq_false]
  exact ⟨m, List.mem_of_getElem? hm, by simp [hf]⟩

set_option maxHeartbeats 1000000 in
set_option maxRecDepth 100000 in
theorem mayBe_any (g : Nat) (M : List Cel) (cap : Nat) (w : World) (hc : Cels w g M) (hlen : M.length ≤ 1000) :
    Calls Try.prog 22 #[.slice (some ⟨g, 0, none⟩) M.length cap] w fun e w' => e = .returned (.int .i64 (mb M)) ∧ Below w.heap.size w w' := by
  go_enter Try.func22, Try.ntmps22
  go_wp2
  go_loopw [9] (fun i wr => ∃ k : Nat, k ≤ M.length ∧ i = .int .i64 k ∧ (M.take k).all okK = true ∧ Below w.heap.size w wr) (fun i _ => M.length - (intOf i).toNat)
  case atStart => exact ⟨0, Nat.zero_le _, rfl, by simp, Below.refl _ _⟩
  case round =>
    obtain ⟨k, hk, rfl, hall, hbw⟩ := hrel
    by_cases hlt : k < M.length
    · obtain ⟨m, hm⟩ : ∃ m, M[k]? = some m := ⟨_, List.getElem?_eq_getElem hlt⟩
      obtain ⟨c1, c2⟩ := hc.below hbw k m hm
      have hki : (k : Int) < (M.length : Int) := by omega
      have hbA := hbw.alloc hbw.size (.cells #[.int .i64 m.kind, .slice m.at' m.len m.cap] 36)
      by_cases h0 : 0 ≤ m.kind
      · have d0 : decide (m.kind < 0) = false := by simp; omega
        by_cases h1 : m.kind ≤ 255
        · have d1 : decide (255 < m.kind) = false := by simp; omega
          have HS := hide (all_snoc (f := okK) hm hall (by simp [okK, h0, h1]))
          clear hc hm hall
          go_wp2
          go_roundw
          case rel => exact ⟨k + 1, by omega, by go_num, HS.out, hbA⟩
          case measure => simp [intOf]; omega
        · have d1 : decide (255 < m.kind) = true := by simp; omega
          have HS := hide (all_not (f := okK) hm (by simp [okK, h1]))
          clear hc hm hall
          go_wp2
          go_ret
          exact ⟨by rw [mb, HS.out]; rfl, hbA⟩
      · have d0 : decide (m.kind < 0) = true := by simp; omega
        have HS := hide (all_not (f := okK) hm (by simp [okK, h0]))
        clear hc hm hall
        go_wp2
        go_ret
        exact ⟨by rw [mb, HS.out]; rfl, hbA⟩
    · obtain rfl : k = M.length := by omega
      rw [List.take_length] at hall
      have HA := hide hall
      clear hall
      have hki : ¬ ((M.length : Int) < (M.length : Int)) := by omega
      go_wp2
      go_loopw [24] (fun i wr' => ∃ k : Nat, k ≤ M.length ∧ i = .int .i64 k ∧ (M.take k).all okL = true ∧ Below w.heap.size w wr') (fun i _ => M.length - (intOf i).toNat)
      case atStart => exact ⟨0, Nat.zero_le _, rfl, by simp, hbw⟩
      case round =>
        obtain ⟨k, hk, rfl, hall, hbw2⟩ := hrel
        by_cases hlt : k < M.length
        · obtain ⟨m, hm⟩ : ∃ m, M[k]? = some m := ⟨_, List.getElem?_eq_getElem hlt⟩
          obtain ⟨c1, c2⟩ := hc.below hbw2 k m hm
          have hki2 : (k : Int) < (M.length : Int) := by omega
          have hbA := hbw2.alloc hbw2.size (.cells #[.int .i64 m.kind, .slice m.at' m.len m.cap] 36)
          by_cases h1 : m.len ≤ 16777216
          · have d1 : decide ((16777216 : Int) < (m.len : Int)) = false := by simp; omega
            have d2 : decide (16777216 < m.len) = false := by simp; omega
            have HS := hide (all_snoc (f := okL) hm hall (by simp [okL, h1]))
            clear hc hm hall
            go_wp2
            go_roundw
            case rel => exact ⟨k + 1, by omega, by go_num, HS.out, hbA⟩
            case measure => simp [intOf]; omega
          · have d1 : decide ((16777216 : Int) < (m.len : Int)) = true := by simp; omega
            have d2 : decide (16777216 < m.len) = true := by simp; omega
            have HS := hide (all_not (f := okL) hm (by simp [okL, h1]))
            clear hc hm hall
            go_wp2
            go_ret
            exact ⟨by rw [mb, HA.out, HS.out]; rfl, hbA⟩
        · obtain rfl : k = M.length := by omega
          rw [List.take_length] at hall
          have HB := hide hall
          clear hall
          go_wp2
          go_ret
          exact ⟨by rw [mb, HA.out, HB.out]; rfl, hbw2⟩

set_option maxHeartbeats 400000 in
set_option maxRecDepth 100000 in
theorem putAll_no (g : Nat) (M : List Cel) (cap : Nat) (w : World) (hc : Cels w g M) (hlen : M.length ≤ 1000) (x : Int) (hx : mb M = x) (hne : x ≠ 0) :
    Calls Try.prog 14 #[.slice (some ⟨g, 0, none⟩) M.length cap] w fun e w' => e = .returned (.tuple #[.slice none 0 0, .int .i64 x]) ∧ Below w.heap.size w w' := by
  have h1 := mayBe_any g M cap w hc hlen
  rw [hx] at h1
  have hd1 : (x == 0) = false := by simpa using hne
  have hd2 : (x != 0) = true := by simpa using hne
  clear hc hx
  go_enter Try.func14, Try.ntmps14
  go_wp2_with (go_at_call 22; refine h1.mono ?_; rintro e w1 ⟨rfl, b1⟩)
  go_ret2
  exact ⟨rfl, b1⟩

theorem _root_.Go.Proofs.Try.info22 : (Try.prog.info? 22).map (fun i => (i.zero, i.size, i.bytes)) = some (some (.slice none 0 0), 1, 24) := by kernel_rfl

set_option maxHeartbeats 1000000 in
set_option maxRecDepth 100000 in
theorem putAll_one (g : Nat) (cap : Nat) (w : World) (k : Int) (ao : Option Addr) (c : Nat) (l : List Int) (hc : Cels w g [⟨k, ao, l.length, c⟩]) (hk : 0 ≤ k ∧ k ≤ 255) (hr : Rd w ao l) (hn : ao = none → c = 0) (hu : U8 l) (hl : l.length ≤ 16777216) :
    Calls Try.prog 14 #[.slice (some ⟨g, 0, none⟩) 1 cap] w fun e w' => ∃ A C, e = .returned (.tuple #[.slice A (frm k l).length C, .int .i64 0]) ∧ Own 5 w' w.heap.size (.slice A (frm k l).length C) (frm k l) ∧ (A = none → C = 0) ∧ Below w.heap.size w w' := by
  obtain ⟨i22, hi22, hy0, hy1, hy2⟩ := info_parts Try.info22
  obtain ⟨hz, hi⟩ := zero_of_info (P := Try.prog) Try.info53
  have hm : mb [⟨k, ao, l.length, c⟩] = 0 := by simp [mb, okK, okL, hk.1, hk.2, hl]
  have h1 := mayBe_any g [⟨k, ao, l.length, c⟩] cap w hc (by simp)
  rw [hm] at h1
  have hk8 := u8_wrap hk
  have HC := hide (And.intro hc (And.intro hr hk))
  clear hc hr
  go_enter Try.func14, Try.ntmps14
  go_wp2_with (go_at_call 22; refine h1.mono ?_; rintro e w1 ⟨rfl, b1⟩)
  obtain ⟨c1, c2⟩ := HC.out.1.below b1 0 _ rfl
  have hb2 : Below w1.heap.size w1 (w1.alloc (.cells #[.int .i64 k, .slice ao l.length c] 36)) := (Below.refl _ w1).alloc (Nat.le_refl _) _
  have hF2 := heap_alloc_new w1 (.cells #[.int .i64 k, .slice ao l.length c] 36)
  have hh := headerOf_any k ao c l (w1.alloc (.cells #[.int .i64 k, .slice ao l.length c] 36)) hk ((HC.out.2.1.below b1).below hb2) hn hu hl
  simp only [Nat.zero_mul, Nat.zero_add] at c1 c2
  have hs1 := b1.size
  refine wp_loop_rounds 2 ?_
  rw [rounds_succ]
  go_wp2_with (first
    | (go_at_call 23; refine hh.mono ?_; rintro e w3 ⟨rfl, b3⟩)
    | refine wpList_store_new 53 (.tmp 8) (.tmp 25) w3.heap.size 9 (u8s (head k l)) rfl rfl rfl rfl rfl hi (by rw [u8s_length, head_length]) (by simp) rfl u8s_one ?_)
  have b13 := hb2.trans (b3.mono (by simp))
  have hs3 : w1.heap.size + 1 ≤ w3.heap.size := by have := b3.size; simpa using this
  have hF3 := (b3.block w1.heap.size (by simp)).trans hF2
  have b4 : Below w3.heap.size w3 (w3.alloc (.cells (u8s (head k l)).toArray 53)) := (Below.refl _ w3).alloc (Nat.le_refl _) _
  have hg4 := rangeAt_new w3 (u8s (head k l)) 53
  have hs4 : (w3.alloc (.cells (u8s (head k l)).toArray 53)).heap.size = w3.heap.size + 1 := by simp
  generalize w3.alloc (.cells (u8s (head k l)).toArray 53) = W4 at b4 hg4 hs4 ⊢
  have hF4 := (b4.block w1.heap.size (by omega)).trans hF3
  have hS4 : W4.drew.cell? ⟨w1.heap.size, 1, none⟩ = some (.slice ao l.length c) := (blk2 hF4).2.1
  have b5 : Below W4.heap.size W4 (W4.drew.alloc (.cells #[.slice (some ⟨w3.heap.size, 0, none⟩) 9 9, .slice ao l.length c] 22)) := (Below.refl _ W4).drew.alloc (Nat.le_refl _) _
  have hS4b := (b5.cell (World.block_lt_of_cell? _ _ hS4)).trans hS4
  obtain ⟨y0, y1, _, _⟩ := blk2 (w := W4.drew.alloc (.cells #[.slice (some ⟨w3.heap.size, 0, none⟩) 9 9, .slice ao l.length c] 22)) (R := W4.heap.size) (heap_alloc_new W4.drew _)
  obtain ⟨v6, w6, hr6, ho6, hg6, hw6⟩ := append_where (P := Try.prog) (W4.drew.alloc (.cells #[.slice (some ⟨w3.heap.size, 0, none⟩) 9 9, .slice ao l.length c] 22)) 51 51 22 i22 _ 1 24 Try.underlying51 hi22 hy0 hy1 hy2 rfl (by decide) (.slice none 0 0) 0 [] (World.ownsRow_nil _ _ _ _) ⟨W4.heap.size, 0, none⟩ 2 2 [.slice (some ⟨w3.heap.size, 0, none⟩) 9 9, .slice ao l.length c] rfl (by
    intro j u hj
    rw [add_lit]
    match j, hj with
    | 0, hj => cases hj; exact y0
    | 1, hj => cases hj; exact y1) (by simp [Value.oneCell']) (by unfold maxLen; omega) (by omega)
  rw [hs4] at hr6
  have b6 : Below (W4.drew.alloc (.cells #[.slice (some ⟨w3.heap.size, 0, none⟩) 9 9, .slice ao l.length c] 22)).heap.size (W4.drew.alloc (.cells #[.slice (some ⟨w3.heap.size, 0, none⟩) 9 9, .slice ao l.length c] 22)) w6 := (Below.refl _ _).grown hg6 (Nat.le_refl _) (fun j hj => by cases hj)
  obtain ⟨a6, c6, rfl, ha6, _⟩ := row_form ho6
  cases a6 with
  | none => rcases ho6.2 with ⟨_, q⟩ | ⟨_, _, _, q, _⟩ <;> simp at q
  | some a6 =>
    obtain ⟨g6, rfl⟩ := ha6 _ rfl
    have hS6 := (b6.cell (World.block_lt_of_cell? _ _ hS4b)).trans hS4b
    have p0 := World.ownsRow.cells ho6 (g := g6) rfl 0 _ rfl
    have p1 := World.ownsRow.cells ho6 (g := g6) rfl 1 _ rfl
    have b46 := b5.trans (b6.mono b5.size)
    have b16 : Below w.heap.size w w6 := ((b1.trans (b13.mono hs1)).trans (b4.mono (by omega))).trans (b46.mono (by omega))
    have hP : Pieces w6 (some ⟨g6, 0, none⟩) [head k l, l] := ⟨by simp, fun a ha j u hj => by
      cases ha
      match j, hj with
      | 0, hj => cases hj; exact ⟨_, 9, p0, rd_range (rangeAt_below hg4 b46 (by omega)), by simp⟩
      | 1, hj => cases hj; exact ⟨_, c, p1, HC.out.2.1.below b16, hn⟩⟩
    have hj := join_any (some ⟨g6, 0, none⟩) c6 [head k l, l] w6 hP (by simp) (by simp [head_length]; omega)
    have HJ := hide b16
    clear p0 p1 hP b46 b6 b5 ho6 hg6 hw6 b16 hF2 hF3 hF4 hg4 b4 b13 y0 y1 hb2 hh
    refine wp_region_held_drew (S := (fun w' => w'.cell? ⟨w1.heap.size, 1, none⟩ = some (.slice ao l.length c))) (by kernel_rfl) (by exact hS4) (fun hHeld => ?_)
    try dsimp only at hHeld
    refine take_op (i := 0) (d := 26) (OP := Op.move (Operand.tmp 5)) (T := 51) (v := ?vq1x) rfl rfl rfl rfl (by kernel_rfl) (by kernel_rfl) (by kernel_rfl) (fun _ _ _ h => h) (by rfl) ?hq1x hHeld ?rq1x
    case hq1x => (intro w' hSw; (try dsimp only at hSw); go_simp <;> with_reducible rfl)
    try simp only [Act.put, List.setIfInBounds_toArray, List.set_cons_zero, List.set_cons_succ]
    refine take_op (i := 1) (d := 27) (OP := Op.slice 53 (Operand.tmp 8) none none none) (T := 22) (v := ?vq2x) rfl rfl rfl rfl (by kernel_rfl) (by kernel_rfl) (by kernel_rfl) (fun _ _ _ h => h) (by rfl) ?hq2x hHeld ?rq2x
    case hq2x => (intro w' hSw; (try dsimp only at hSw); go_simp <;> with_reducible rfl)
    try simp only [Act.put, List.setIfInBounds_toArray, List.set_cons_zero, List.set_cons_succ]
    refine take_op (i := 2) (d := 28) (OP := Op.fieldAddr 36 (Operand.tmp 7) 1) (T := 0) (v := ?vq3x) rfl rfl rfl rfl (by kernel_rfl) (by kernel_rfl) (by kernel_rfl) (fun _ _ _ h => h) (by rfl) ?hq3x hHeld ?rq3x
    case hq3x => (intro w' hSw; (try dsimp only at hSw); go_simp <;> with_reducible rfl)
    try simp only [Act.put, List.setIfInBounds_toArray, List.set_cons_zero, List.set_cons_succ]
    refine take_op (i := 3) (d := 29) (OP := Op.load 22 (Operand.tmp 28)) (T := 22) (v := ?vq4x) rfl rfl rfl rfl (by kernel_rfl) (by kernel_rfl) (by kernel_rfl) (fun _ _ _ h => h) (by rfl) ?hq4x hHeld ?rq4x
    case hq4x => (intro w' hSw; (try dsimp only at hSw); go_simp <;> with_reducible rfl)
    try simp only [Act.put, List.setIfInBounds_toArray, List.set_cons_zero, List.set_cons_succ]
    refine turn_op (i := 4) (d := 30) (OP := Op.buildSlice 51 2 #[(0, Operand.tmp 27), (1, Operand.tmp 29)]) (T := 51) (v := .slice (some ⟨w3.heap.size + 1, 0, none⟩) 2 2) (w' := W4.drew.alloc (.cells #[.slice (some ⟨w3.heap.size, 0, none⟩) 9 9, .slice ao l.length c] 22)) rfl rfl rfl rfl (by kernel_rfl) (by rfl) (by go_simp) hS4b ?_
    replace hHeld := hS4b
    try simp only [Act.put, List.setIfInBounds_toArray, List.set_cons_zero, List.set_cons_succ]
    refine turn_op (i := 5) (d := 31) (OP := Op.call { callee := Callee.builtin Builtin.append, args := #[Operand.tmp 26, Operand.tmp 30], argTypes := #[51, 51] }) (T := 51) (v := .slice (some ⟨g6, 0, none⟩) 2 c6) (w' := w6) rfl rfl rfl rfl (by kernel_rfl) (by rfl) (exec_append rfl rfl hr6) hS6 ?_
    replace hHeld := hS6
    try simp only [Act.put, List.setIfInBounds_toArray, List.set_cons_zero, List.set_cons_succ]
    refine take_op (i := 6) (d := 5) (OP := Op.assign (Operand.tmp 31)) (T := 51) (v := ?vq7x) rfl rfl rfl rfl (by kernel_rfl) (by kernel_rfl) (by kernel_rfl) (fun _ _ _ h => h) (by rfl) ?hq7x hHeld ?rq7x
    case hq7x => (intro w' hSw; (try dsimp only at hSw); go_simp <;> with_reducible rfl)
    try simp only [Act.put, List.setIfInBounds_toArray, List.set_cons_zero, List.set_cons_succ]
    refine wpAnyH_done (by kernel_rfl) ?_ _
    go_wp2
    rw [rounds_succ]
    go_wp2_with (go_at_call 24; refine hj.mono ?_; rintro e w7 ⟨A, C, rfl, ho7, hn7, b7⟩)
    go_ret2
    have hfl : [head k l, l].flatten = frm k l := by simp [frm]
    rw [hfl] at ho7
    exact ⟨A, C, by rw [frm, List.length_append]; rfl, ho7.lift HJ.out.size, hn7, HJ.out.trans (b7.mono HJ.out.size)⟩

theorem cels_one (w : World) (k : Int) (ao : Option Addr) (n c : Nat) : Cels (w.alloc (.cells #[.int .i64 k, .slice ao n c] 36)) w.heap.size [⟨k, ao, n, c⟩] := fun i m hm => by
  match i, hm with
  | 0, hm =>
    cases hm
    obtain ⟨h1, h2, _, _⟩ := blk2 (heap_alloc_new w (.cells #[.int .i64 k, .slice ao n c] 36))
    exact ⟨h1, h2⟩

set_option maxHeartbeats 400000 in
set_option maxRecDepth 100000 in
theorem put_no (k : Int) (ao : Option Addr) (n c : Nat) (w : World) (x : Int) (hx : mb [⟨k, ao, n, c⟩] = x) (hne : x ≠ 0) :
    Calls Try.prog 13 #[.int .i64 k, .slice ao n c] w fun e w' => e = .returned (.tuple #[.slice none 0 0, .int .i64 x]) ∧ Below w.heap.size w w' := by
  have h1 := putAll_no w.heap.size [⟨k, ao, n, c⟩] 1 _ (cels_one w k ao n c) (by simp) x hx hne
  rw [show [(⟨k, ao, n, c⟩ : Cel)].length = 1 from rfl] at h1
  have hb : Below w.heap.size w (w.alloc (.cells #[.int .i64 k, .slice ao n c] 36)) := (Below.refl _ w).alloc (Nat.le_refl _) _
  clear hx
  go_enter Try.func13, Try.ntmps13
  go_wp2_with (go_at_call 14; refine h1.mono ?_; rintro e w1 ⟨rfl, b1⟩)
  go_ret2
  exact ⟨rfl, hb.trans (b1.mono hb.size)⟩

set_option maxHeartbeats 400000 in
set_option maxRecDepth 100000 in
theorem put_yes (k : Int) (ao : Option Addr) (c : Nat) (l : List Int) (w : World) (hk : 0 ≤ k ∧ k ≤ 255) (hr : Rd w ao l) (hn : ao = none → c = 0) (hu : U8 l) (hl : l.length ≤ 16777216) :
    Calls Try.prog 13 #[.int .i64 k, .slice ao l.length c] w fun e w' => ∃ A C, e = .returned (.tuple #[.slice A (frm k l).length C, .int .i64 0]) ∧ Own 5 w' w.heap.size (.slice A (frm k l).length C) (frm k l) ∧ (A = none → C = 0) ∧ Below w.heap.size w w' := by
  have hb : Below w.heap.size w (w.alloc (.cells #[.int .i64 k, .slice ao l.length c] 36)) := (Below.refl _ w).alloc (Nat.le_refl _) _
  have h1 := putAll_one w.heap.size 1 _ k ao c l (cels_one w k ao l.length c) hk (hr.below hb) hn hu hl
  have hf : (frm k l).length = 9 + l.length := by rw [frm, List.length_append, head_length]
  rw [hf] at h1 ⊢
  go_enter Try.func13, Try.ntmps13
  go_wp2_with (go_at_call 14; refine h1.mono ?_; rintro e w1 ⟨A, C, rfl, ho, hn1, b1⟩)
  go_ret2
  exact ⟨A, C, rfl, ho.lift hb.size, hn1, hb.trans (b1.mono hb.size)⟩
end Go.Proofs.Ytmabfaldndlneaa
