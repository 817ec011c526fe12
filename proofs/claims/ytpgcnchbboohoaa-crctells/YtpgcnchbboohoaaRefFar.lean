/-
  THE WALK over the document's Far: a register behind any number of noughts, by squares.
-/
import Derived.Test.YtpgcnchbboohoaaThrough
import Derived.Test.YtpgcnchbboohoaaDrawn
namespace Go.Proofs.Ytpgcnchbboohoaa
open Go.RowKit Crc
set_option linter.unusedSimpArgs false

theorem below_undrew0 {a w' : World} (h : Below a.drew.heap.size a.drew w') : Below a.heap.size a w' := ⟨h.os, h.tape, h.output, h.size, h.block⟩
theorem load_tab_run {ev : Operand → Value} {x : Operand} {b : Nat} {cs : List Value} {w : World} (hi : (Try.prog.info? 43).map (·.size) = some 32) (hc : w.rangeAt b 0 cs) (hx : ev x = .pointer (some ⟨b, 0, none⟩)) (hn : cs.length = 32) :
    (execOp ev { dst := none, op := .load 43 x, type := 43, pos := "", after := #[], guard := none }).run Try.prog w = .ok (.value (.agg cs.toArray)) w := by
  unfold execOp
  simp only [hx]
  rw [Sem.run_bind, run_loadAt_mid (P := Try.prog) w b 0 43 cs _ hc Try.underlying43 rfl (by rw [hi, hn])]
  rfl

set_option maxHeartbeats 2000000 in
set_option maxRecDepth 100000 in
theorem far_any (s N : Nat) (w : World) (hs0 : s < 4294967296) (hN : N < 9223372036854775808) :
    Calls Try.prog 12 #[.int .u32 s, .int .i64 N] w fun e w' => e = .returned (.int .u32 (hs (8 * N) s : Nat)) ∧ Below w.heap.size w w' := by
  obtain ⟨hz, hi⟩ := zero_of_info (P := Try.prog) Try.info43
  go_enter Try.func12, Try.ntmps12
  go_wp2
  go_loopw [6] (fun i wr => ∃ k : Nat, k ≤ 32 ∧ i = .int .i64 k ∧ wr = w.alloc (.cells (tab 32 (fun i => hs 8 (2 ^ i)) k).toArray 43)) (fun i _ => 32 - (intOf i).toNat)
  case atStart => exact ⟨0, by omega, rfl, by rw [tab_zero]; rfl⟩
  case round =>
    obtain ⟨k, hk, rfl, rfl⟩ := hrel
    by_cases h : k < 32
    · have hlen := tab_length 32 k (fun i => hs 8 (2 ^ i))
      obtain ⟨p, hp, hpl, hsl⟩ := shl_one h
      have HP : Hid (p = 2 ^ k) := hp
      clear hp
      go_wp2_with (go_at_call 18; refine (step_any p _ (by omega)).mono ?_; rintro e w' ⟨rfl, rfl⟩)
      go_roundw
      case rel => exact ⟨k + 1, by omega, by go_num, by rw [← tab_set h, HP.out]⟩
      case measure => simp [intOf]; omega
    · obtain rfl : k = 32 := by omega
      go_wp2
      rw [show ((32 : Nat) : Int) = 32 from rfl]
      have hr0 := rangeAt_new w (tab 32 (fun i => hs 8 (2 ^ i)) 32) 43
      have ht0 := there_new w (tab 32 (fun i => hs 8 (2 ^ i)) 32) 43
      have hb0 : Below w.heap.size w (w.alloc (.cells (tab 32 (fun i => hs 8 (2 ^ i)) 32).toArray 43)) := (Below.refl _ _).alloc (Nat.le_refl _) _
      have hs1 : w.heap.size < (w.alloc (.cells (tab 32 (fun i => hs 8 (2 ^ i)) 32).toArray 43)).heap.size := by simp
      rw [tab_length] at ht0
      obtain ⟨W, hW⟩ : ∃ W, W = w.alloc (.cells (tab 32 (fun i => hs 8 (2 ^ i)) 32).toArray 43) := ⟨_, rfl⟩
      rw [← hW] at hr0 ht0 hb0 hs1 ⊢
      rw [tab_first] at hr0
      clear hW
      go_loopw [0, 1] (fun x n wr => ∃ j : Nat, x = .int .u32 (hs (8 * (N % 2 ^ j)) s : Nat) ∧ n = .int .i64 (N / 2 ^ j : Nat) ∧ w.heap.size < wr.heap.size ∧ Below w.heap.size w wr ∧
        wr.rangeAt w.heap.size 0 (tab 32 (rowOf (8 * 2 ^ j)) 32) ∧ wr.there w.heap.size 0 32) (fun _ n _ => (intOf n).toNat)
      case atStart =>
        refine ⟨0, ?_, ?_, hs1, hb0, hr0, ht0⟩
        · rw [Nat.pow_zero, Nat.mod_one]; rfl
        · rw [Nat.pow_zero, Nat.div_one]
      case round =>
        clear hr0 ht0 hb0 hs1
        obtain ⟨j, rfl, rfl, hbs, hb, hr, ht⟩ := hrel
        have hxl : hs (8 * (N % 2 ^ j)) s < 4294967296 := hs_lt _ hs0
        have HS : Hid (hs (8 * (N % 2 ^ (j + 1))) s = if N / 2 ^ j % 2 = 1 then hs (8 * 2 ^ j) (hs (8 * (N % 2 ^ j)) s) else hs (8 * (N % 2 ^ j)) s) := far_step N j s
        have HD : Hid (N / 2 ^ j = 0 → hs (8 * (N % 2 ^ j)) s = hs (8 * N) s) := far_done N j s
        have HN : Hid (N / 2 ^ (j + 1) = N / 2 ^ j / 2) := by show N / 2 ^ (j + 1) = N / 2 ^ j / 2; rw [Nat.pow_succ, Nat.div_div_eq_div_mul]
        have HQ : Hid (8 * 2 ^ (j + 1) = 2 * (8 * 2 ^ j)) := by show 8 * 2 ^ (j + 1) = 2 * (8 * 2 ^ j); rw [Nat.pow_succ]; omega
        have hnl : N / 2 ^ j < 9223372036854775808 := Nat.lt_of_le_of_lt (Nat.div_le_self _ _) hN
        obtain ⟨n, hn⟩ : ∃ n, n = N / 2 ^ j := ⟨_, rfl⟩
        obtain ⟨x, hx⟩ : ∃ x, x = hs (8 * (N % 2 ^ j)) s := ⟨_, rfl⟩
        obtain ⟨q, hq⟩ : ∃ q, q = 8 * 2 ^ j := ⟨_, rfl⟩
        rw [← hn, ← hx] at HS HD
        rw [← hn] at HN hnl ⊢
        rw [← hx] at hxl ⊢
        rw [← hq] at HS HQ hr
        clear hn hx hq
        by_cases h0 : 0 < n
        · have HY : Hid (∃ y, hs (8 * (N % 2 ^ (j + 1))) s = y ∧ (n % 2 = 1 → thr (rowOf q) x 32 = y) ∧ (n % 2 ≠ 1 → x = y)) := by
            refine (⟨_, rfl, fun ho => ?_, fun ho => ?_⟩ : ∃ y, hs (8 * (N % 2 ^ (j + 1))) s = y ∧ (n % 2 = 1 → thr (rowOf q) x 32 = y) ∧ (n % 2 ≠ 1 → x = y))
            · rw [HS.out, if_pos ho, thr_rowOf q x hxl]
            · rw [HS.out, if_neg ho]
          obtain ⟨y, hy, hyo, hye⟩ := HY.out
          have HYY : Hid (hs (8 * (N % 2 ^ (j + 1))) s = y) := hy
          clear HY HS HD hy
          by_cases ho : n % 2 = 1
          · have ho' : (n : Int) % 2 = 1 := by omega
            have hyo' := hyo ho
            have hct := through_any (rowOf q) x wr hxl (rowOf_lt q)
            rw [hyo'] at hct
            clear hyo hye hyo'
            go_wp2_with (first
              | refine wpList_load_tab 43 (.tmp 5) w.heap.size 32 (tab 32 (rowOf q) 32) rfl rfl rfl Try.underlying43 hi (tab_length _ _ _) hr ?_
              | (go_at_call 19; refine hct.mono ?_; rintro e wx ⟨rfl, hbx⟩))
            have hrx := rangeAt_below hr hbx hbs
            have htx := there_below ht hbx hbs
            have hsx : w.heap.size < wx.heap.size := Nat.lt_of_lt_of_le hbs hbx.size
            have hbw := hb.trans (hbx.mono hb.size)
            clear hct hr ht hbs hb hbx ho ho' hxl
            obtain ⟨c, hc⟩ : ∃ c, c = wx.heap.size := ⟨_, rfl⟩
            have hrc0 := rangeAt_new wx (List.replicate 32 (.int .u32 0)) 43
            have htc0 := there_new wx (List.replicate 32 (.int .u32 0)) 43
            rw [← hc] at hrc0 htc0 ⊢
            rw [List.length_replicate] at htc0
            have hcs0 : c < (wx.alloc (.cells (Array.replicate 32 (.int .u32 0)) 43)).heap.size := by simp; omega
            have hwc : w.heap.size < c := by omega
            have hrx0 := World.rangeAt_alloc hrx (.cells (Array.replicate 32 (.int .u32 0)) 43)
            have htx0 := World.there_alloc htx (.cells (Array.replicate 32 (.int .u32 0)) 43)
            have hbx0 := hbw.alloc (Nat.le_of_lt hsx) (.cells (Array.replicate 32 (.int .u32 0)) 43)
            have hrc1 : (wx.alloc (.cells (Array.replicate 32 (.int .u32 0)) 43)).rangeAt c 0 (tab 32 (mix (fun i => thr (rowOf q) (rowOf q i) 32) (fun _ => 0) 0) 32) := by
              rw [mix_zero, show tab 32 (fun _ => 0) 32 = List.replicate 32 (.int .u32 0) by kernel_rfl]
              exact hrc0
            have htc1 : (wx.alloc (.cells (Array.replicate 32 (.int .u32 0)) 43)).there c 0 32 := htc0
            clear hrc0 htc0 hrx htx hbw
            go_loopw [8] (fun i wq => ∃ k : Nat, k ≤ 32 ∧ i = .int .i64 k ∧ c < wq.heap.size ∧ Below w.heap.size w wq ∧ wq.rangeAt w.heap.size 0 (tab 32 (rowOf q) 32) ∧ wq.there w.heap.size 0 32 ∧
              wq.rangeAt c 0 (tab 32 (mix (fun i => thr (rowOf q) (rowOf q i) 32) (fun _ => 0) k) 32) ∧ wq.there c 0 32) (fun i _ => 32 - (intOf i).toNat)
            case atStart => exact ⟨0, by omega, rfl, hcs0, hbx0, hrx0, htx0, hrc1, htc1⟩
            case round =>
              clear hrx0 htx0 hbx0 hrc1 htc1 hcs0 hsx hc
              obtain ⟨i, hik, rfl, hcs, hbq, hrq, htq, hrc, htc⟩ := hrel
              by_cases hi32 : i < 32
              · go_wp2
                refine wp_region_held_drew (S := (fun w' => w'.rangeAt w.heap.size 0 (tab 32 (rowOf q) 32))) (by kernel_rfl) (by simpa using hrq) (fun hHeld => ?_)
                try dsimp only at hHeld
                refine take_op (i := 0) (d := 32) (OP := Go.Op.move (Go.Operand.tmp 8)) (T := 3) (v := ?vfx1) rfl rfl rfl rfl (by kernel_rfl) (by kernel_rfl) (by kernel_rfl) (fun _ _ _ h => h) (by rfl) ?hfx1 hHeld ?rfx1
                case hfx1 => (intro w' hSw; (try dsimp only at hSw); go_simp <;> with_reducible rfl)
                try simp only [Act.put, List.setIfInBounds_toArray, List.set_cons_zero, List.set_cons_succ]
                refine take_op (i := 2) (d := 34) (OP := Go.Op.move (Go.Operand.tmp 8)) (T := 3) (v := ?vfx2) rfl rfl rfl rfl (by kernel_rfl) (by kernel_rfl) (by kernel_rfl) (fun _ _ _ h => h) (by rfl) ?hfx2 hHeld ?rfx2
                case hfx2 => (intro w' hSw; (try dsimp only at hSw); go_simp <;> with_reducible rfl)
                try simp only [Act.put, List.setIfInBounds_toArray, List.set_cons_zero, List.set_cons_succ]
                refine take_op (i := 1) (d := 33) (OP := Go.Op.load 43 (Go.Operand.tmp 5)) (T := 43) (v := .agg (tab 32 (rowOf q) 32).toArray) rfl rfl rfl rfl (by kernel_rfl) (by kernel_rfl) (by kernel_rfl) (fun _ _ _ h => h) (by rfl) ?hfx3 hHeld ?rfx3
                case hfx3 => (intro w' hSw; exact load_tab_run hi hSw rfl (tab_length _ _ _))
                try simp only [Act.put, List.setIfInBounds_toArray, List.set_cons_zero, List.set_cons_succ]
                refine take_op (i := 3) (d := 35) (OP := Go.Op.indexAddr 43 (Go.Operand.tmp 5) (Go.Operand.tmp 34)) (T := 0) (v := ?vfx4) rfl rfl rfl rfl (by kernel_rfl) (by kernel_rfl) (by kernel_rfl) (fun _ _ _ h => h) (by rfl) ?hfx4 hHeld ?rfx4
                case hfx4 => (intro w' hSw; (try dsimp only at hSw); go_simp <;> with_reducible rfl)
                try simp only [Act.put, List.setIfInBounds_toArray, List.set_cons_zero, List.set_cons_succ]
                refine take_op (i := 4) (d := 36) (OP := Go.Op.load 23 (Go.Operand.tmp 35)) (T := 23) (v := .int .u32 (rowOf q i : Nat)) rfl rfl rfl rfl (by kernel_rfl) (by kernel_rfl) (by kernel_rfl) (fun _ _ _ h => h) (by rfl) ?hfx5 hHeld ?rfx5
                case hfx5 => (intro w' hSw; have hcq := rangeAt_cell (k := i) hSw (by rw [tab_at hi32, if_pos hi32]); go_simp <;> with_reducible rfl)
                try simp only [Act.put, List.setIfInBounds_toArray, List.set_cons_zero, List.set_cons_succ]
                refine call_op (i := 5) (d := 37) (OP := Go.Op.call { callee := Go.Callee.value (Go.Operand.func 19), args := #[Go.Operand.tmp 33, Go.Operand.tmp 36], argTypes := #[43, 23] }) (T := 23) (f := 19) (args := #[.agg (tab 32 (rowOf q) 32).toArray, .int .u32 (rowOf q i : Nat)]) rfl rfl rfl rfl (by kernel_rfl) (by rfl) (by go_simp) ?_
                refine (through_any (rowOf q) (rowOf q i) _ (rowOf_lt q i) (rowOf_lt q)).mono ?_
                rintro e w1 ⟨rfl, hb1⟩
                have hb1' := below_undrew0 hb1
                have hrq1 := rangeAt_below hrq hb1' (by omega)
                have hrc1 := rangeAt_below hrc hb1' hcs
                have htc1 := there_below htc hb1' hcs
                have hcc := rangeAt_cell (k := i) hrc1 (by rw [tab_at hi32])
                have hfc := there_free htc1 hi32
                refine ⟨_, rfl, hrq1, ?_⟩
                replace hHeld := hrq1
                try simp only [Act.put, List.setIfInBounds_toArray, List.set_cons_zero, List.set_cons_succ]
                refine take_op (i := 6) (d := 38) (OP := Go.Op.indexAddr 43 (Go.Operand.tmp 7) (Go.Operand.tmp 32)) (T := 0) (v := ?vfx7) rfl rfl rfl rfl (by kernel_rfl) (by kernel_rfl) (by kernel_rfl) (fun _ _ _ h => h) (by rfl) ?hfx7 hHeld ?rfx7
                case hfx7 => (intro w' hSw; (try dsimp only at hSw); go_simp <;> with_reducible rfl)
                try simp only [Act.put, List.setIfInBounds_toArray, List.set_cons_zero, List.set_cons_succ]
                refine skip_op (i := 7) (OP := Go.Op.store 23 (Go.Operand.tmp 38) (Go.Operand.tmp 37)) (T := 0) (w' := w1.setCell ⟨c, i, none⟩ (.int .u32 (thr (rowOf q) (rowOf q i) 32 : Nat))) rfl rfl rfl rfl (by kernel_rfl) (by rfl) (by go_simp) ⟨rangeAt_set_other hrq1 _ _ (by omega), ?_⟩
                try simp only [Act.put, List.setIfInBounds_toArray, List.set_cons_zero, List.set_cons_succ]
                refine wpAnyH_done (by kernel_rfl) ?_ _
                go_wp2
                go_roundw
                case rel =>
                  refine ⟨i + 1, by omega, by go_num, by have := hb1'.size; simp; omega, (hbq.trans (hb1'.mono hbq.size)).setCell (by simp; omega) _, rangeAt_set_other hrq1 _ _ (by omega), there_set (there_below htq hb1' (by omega)) _ _, ?_, there_set htc1 _ _⟩
                  have := rangeAt_set (k := i) hrc1 (by rw [tab_length]; omega) (.int .u32 (thr (rowOf q) (rowOf q i) 32 : Nat))
                  rw [tab_mix_set (f := fun i => thr (rowOf q) (rowOf q i) 32) hi32] at this
                  exact this
                case measure => simp [intOf]; omega
              · obtain rfl : i = 32 := by omega
                rw [tab_mix_done, tab_square q] at hrc
                go_wp2_with (first
                  | refine wpList_load_tab 43 (.tmp 7) c 32 (tab 32 (rowOf (2 * q)) 32) rfl rfl rfl Try.underlying43 hi (tab_length _ _ _) hrc ?_
                  | (refine wpList_store_own 43 (.tmp 5) (.tmp 39) w.heap.size 32 (tab 32 (rowOf (2 * q)) 32) rfl rfl rfl rfl rfl hi (tab_length _ _ _) htq (tab_one _ _ _) ?_; intro wz hgz hrz htz))
                go_roundw
                case rel =>
                  refine ⟨j + 1, by rw [HYY.out], by rw [HN.out]; go_num, by have := hgz.size; omega, hbq.grown hgz hbq.size (fun k hk => by cases hk; exact Nat.le_refl _), ?_, htz⟩
                  rw [HQ.out]; exact hrz
                case measure => simp [intOf]; omega
          · have ho' : ¬ (n : Int) % 2 = 1 := by omega
            have hye' := hye ho
            subst hye'
            clear hyo hye
            go_wp2
            obtain ⟨wx, hwx⟩ : ∃ wx, wx = wr := ⟨_, rfl⟩
            subst hwx
            have hrx := hr
            have htx := ht
            have hsx := hbs
            have hbw := hb
            clear hr ht hbs hb ho ho' hxl
            obtain ⟨c, hc⟩ : ∃ c, c = wx.heap.size := ⟨_, rfl⟩
            have hrc0 := rangeAt_new wx (List.replicate 32 (.int .u32 0)) 43
            have htc0 := there_new wx (List.replicate 32 (.int .u32 0)) 43
            rw [← hc] at hrc0 htc0 ⊢
            rw [List.length_replicate] at htc0
            have hcs0 : c < (wx.alloc (.cells (Array.replicate 32 (.int .u32 0)) 43)).heap.size := by simp; omega
            have hwc : w.heap.size < c := by omega
            have hrx0 := World.rangeAt_alloc hrx (.cells (Array.replicate 32 (.int .u32 0)) 43)
            have htx0 := World.there_alloc htx (.cells (Array.replicate 32 (.int .u32 0)) 43)
            have hbx0 := hbw.alloc (Nat.le_of_lt hsx) (.cells (Array.replicate 32 (.int .u32 0)) 43)
            have hrc1 : (wx.alloc (.cells (Array.replicate 32 (.int .u32 0)) 43)).rangeAt c 0 (tab 32 (mix (fun i => thr (rowOf q) (rowOf q i) 32) (fun _ => 0) 0) 32) := by
              rw [mix_zero, show tab 32 (fun _ => 0) 32 = List.replicate 32 (.int .u32 0) by kernel_rfl]
              exact hrc0
            have htc1 : (wx.alloc (.cells (Array.replicate 32 (.int .u32 0)) 43)).there c 0 32 := htc0
            clear hrc0 htc0 hrx htx hbw
            go_loopw [8] (fun i wq => ∃ k : Nat, k ≤ 32 ∧ i = .int .i64 k ∧ c < wq.heap.size ∧ Below w.heap.size w wq ∧ wq.rangeAt w.heap.size 0 (tab 32 (rowOf q) 32) ∧ wq.there w.heap.size 0 32 ∧
              wq.rangeAt c 0 (tab 32 (mix (fun i => thr (rowOf q) (rowOf q i) 32) (fun _ => 0) k) 32) ∧ wq.there c 0 32) (fun i _ => 32 - (intOf i).toNat)
            case atStart => exact ⟨0, by omega, rfl, hcs0, hbx0, hrx0, htx0, hrc1, htc1⟩
            case round =>
              clear hrx0 htx0 hbx0 hrc1 htc1 hcs0 hsx hc
              obtain ⟨i, hik, rfl, hcs, hbq, hrq, htq, hrc, htc⟩ := hrel
              by_cases hi32 : i < 32
              · go_wp2
                refine wp_region_held_drew (S := (fun w' => w'.rangeAt w.heap.size 0 (tab 32 (rowOf q) 32))) (by kernel_rfl) (by simpa using hrq) (fun hHeld => ?_)
                try dsimp only at hHeld
                refine take_op (i := 0) (d := 32) (OP := Go.Op.move (Go.Operand.tmp 8)) (T := 3) (v := ?vgx1) rfl rfl rfl rfl (by kernel_rfl) (by kernel_rfl) (by kernel_rfl) (fun _ _ _ h => h) (by rfl) ?hgx1 hHeld ?rgx1
                case hgx1 => (intro w' hSw; (try dsimp only at hSw); go_simp <;> with_reducible rfl)
                try simp only [Act.put, List.setIfInBounds_toArray, List.set_cons_zero, List.set_cons_succ]
                refine take_op (i := 2) (d := 34) (OP := Go.Op.move (Go.Operand.tmp 8)) (T := 3) (v := ?vgx2) rfl rfl rfl rfl (by kernel_rfl) (by kernel_rfl) (by kernel_rfl) (fun _ _ _ h => h) (by rfl) ?hgx2 hHeld ?rgx2
                case hgx2 => (intro w' hSw; (try dsimp only at hSw); go_simp <;> with_reducible rfl)
                try simp only [Act.put, List.setIfInBounds_toArray, List.set_cons_zero, List.set_cons_succ]
                refine take_op (i := 1) (d := 33) (OP := Go.Op.load 43 (Go.Operand.tmp 5)) (T := 43) (v := .agg (tab 32 (rowOf q) 32).toArray) rfl rfl rfl rfl (by kernel_rfl) (by kernel_rfl) (by kernel_rfl) (fun _ _ _ h => h) (by rfl) ?hgx3 hHeld ?rgx3
                case hgx3 => (intro w' hSw; exact load_tab_run hi hSw rfl (tab_length _ _ _))
                try simp only [Act.put, List.setIfInBounds_toArray, List.set_cons_zero, List.set_cons_succ]
                refine take_op (i := 3) (d := 35) (OP := Go.Op.indexAddr 43 (Go.Operand.tmp 5) (Go.Operand.tmp 34)) (T := 0) (v := ?vgx4) rfl rfl rfl rfl (by kernel_rfl) (by kernel_rfl) (by kernel_rfl) (fun _ _ _ h => h) (by rfl) ?hgx4 hHeld ?rgx4
                case hgx4 => (intro w' hSw; (try dsimp only at hSw); go_simp <;> with_reducible rfl)
                try simp only [Act.put, List.setIfInBounds_toArray, List.set_cons_zero, List.set_cons_succ]
                refine take_op (i := 4) (d := 36) (OP := Go.Op.load 23 (Go.Operand.tmp 35)) (T := 23) (v := .int .u32 (rowOf q i : Nat)) rfl rfl rfl rfl (by kernel_rfl) (by kernel_rfl) (by kernel_rfl) (fun _ _ _ h => h) (by rfl) ?hgx5 hHeld ?rgx5
                case hgx5 => (intro w' hSw; have hcq := rangeAt_cell (k := i) hSw (by rw [tab_at hi32, if_pos hi32]); go_simp <;> with_reducible rfl)
                try simp only [Act.put, List.setIfInBounds_toArray, List.set_cons_zero, List.set_cons_succ]
                refine call_op (i := 5) (d := 37) (OP := Go.Op.call { callee := Go.Callee.value (Go.Operand.func 19), args := #[Go.Operand.tmp 33, Go.Operand.tmp 36], argTypes := #[43, 23] }) (T := 23) (f := 19) (args := #[.agg (tab 32 (rowOf q) 32).toArray, .int .u32 (rowOf q i : Nat)]) rfl rfl rfl rfl (by kernel_rfl) (by rfl) (by go_simp) ?_
                refine (through_any (rowOf q) (rowOf q i) _ (rowOf_lt q i) (rowOf_lt q)).mono ?_
                rintro e w1 ⟨rfl, hb1⟩
                have hb1' := below_undrew0 hb1
                have hrq1 := rangeAt_below hrq hb1' (by omega)
                have hrc1 := rangeAt_below hrc hb1' hcs
                have htc1 := there_below htc hb1' hcs
                have hcc := rangeAt_cell (k := i) hrc1 (by rw [tab_at hi32])
                have hfc := there_free htc1 hi32
                refine ⟨_, rfl, hrq1, ?_⟩
                replace hHeld := hrq1
                try simp only [Act.put, List.setIfInBounds_toArray, List.set_cons_zero, List.set_cons_succ]
                refine take_op (i := 6) (d := 38) (OP := Go.Op.indexAddr 43 (Go.Operand.tmp 7) (Go.Operand.tmp 32)) (T := 0) (v := ?vgx7) rfl rfl rfl rfl (by kernel_rfl) (by kernel_rfl) (by kernel_rfl) (fun _ _ _ h => h) (by rfl) ?hgx7 hHeld ?rgx7
                case hgx7 => (intro w' hSw; (try dsimp only at hSw); go_simp <;> with_reducible rfl)
                try simp only [Act.put, List.setIfInBounds_toArray, List.set_cons_zero, List.set_cons_succ]
                refine skip_op (i := 7) (OP := Go.Op.store 23 (Go.Operand.tmp 38) (Go.Operand.tmp 37)) (T := 0) (w' := w1.setCell ⟨c, i, none⟩ (.int .u32 (thr (rowOf q) (rowOf q i) 32 : Nat))) rfl rfl rfl rfl (by kernel_rfl) (by rfl) (by go_simp) ⟨rangeAt_set_other hrq1 _ _ (by omega), ?_⟩
                try simp only [Act.put, List.setIfInBounds_toArray, List.set_cons_zero, List.set_cons_succ]
                refine wpAnyH_done (by kernel_rfl) ?_ _
                go_wp2
                go_roundw
                case rel =>
                  refine ⟨i + 1, by omega, by go_num, by have := hb1'.size; simp; omega, (hbq.trans (hb1'.mono hbq.size)).setCell (by simp; omega) _, rangeAt_set_other hrq1 _ _ (by omega), there_set (there_below htq hb1' (by omega)) _ _, ?_, there_set htc1 _ _⟩
                  have := rangeAt_set (k := i) hrc1 (by rw [tab_length]; omega) (.int .u32 (thr (rowOf q) (rowOf q i) 32 : Nat))
                  rw [tab_mix_set (f := fun i => thr (rowOf q) (rowOf q i) 32) hi32] at this
                  exact this
                case measure => simp [intOf]; omega
              · obtain rfl : i = 32 := by omega
                rw [tab_mix_done, tab_square q] at hrc
                go_wp2_with (first
                  | refine wpList_load_tab 43 (.tmp 7) c 32 (tab 32 (rowOf (2 * q)) 32) rfl rfl rfl Try.underlying43 hi (tab_length _ _ _) hrc ?_
                  | (refine wpList_store_own 43 (.tmp 5) (.tmp 39) w.heap.size 32 (tab 32 (rowOf (2 * q)) 32) rfl rfl rfl rfl rfl hi (tab_length _ _ _) htq (tab_one _ _ _) ?_; intro wz hgz hrz htz))
                go_roundw
                case rel =>
                  refine ⟨j + 1, by rw [HYY.out], by rw [HN.out]; go_num, by have := hgz.size; omega, hbq.grown hgz hbq.size (fun k hk => by cases hk; exact Nat.le_refl _), ?_, htz⟩
                  rw [HQ.out]; exact hrz
                case measure => simp [intOf]; omega
        · have hn0 : n = 0 := by omega
          subst hn0
          have HD' := HD.out rfl
          go_wp2
          go_ret
          exact ⟨ret_int rfl, hb⟩
end Go.Proofs.Ytpgcnchbboohoaa
