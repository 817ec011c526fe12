/-
  THE WALK over the law CrcJoins.
-/
import Derived.Test.YtpgcnchbboohoaaKnown
import Derived.Deep.QuietTactic
import Derived.BigQuiet
namespace Go.Proofs.Ytpgcnchbboohoaa
open Go.RowKit Crc
theorem Try.info5 : (Try.prog.info? 5).map (fun i => (i.zero, i.size, i.bytes)) = some (some (.int .u8 0), 1, 1) := by kernel_rfl

/-- An operation whose guard says yes is as one without a guard. -/
theorem wpList_unguard {P : Program} {ops : Array Oper} {rest : List Oper} {o : Oper} {a : Act} {w : World} {Q : Exit → Act → World → Prop} (hw : Region.wanted o (yielded ops a.tmps) = true)
    (h : wpList P ops Q ({ o with guard := none } :: rest) a w) : wpList P ops Q (o :: rest) a w := by
  unfold wpList at h ⊢
  rw [if_pos (show Region.wanted { o with guard := none } (yielded ops a.tmps) = true from rfl)] at h
  rw [if_pos hw]
  exact h
theorem below_drewN {B : Nat} {a w : World} (h : Below B a w) (n : Nat) : Below B a (w.drewN n) := ⟨h.os, h.tape, h.output, h.size, h.block⟩

theorem refJoin_at {a b x : Nat} {m n : Int} (w : World) (hx : hs (8 * n.toNat) a ^^^ b = x) (ha : a < 4294967296) (hb0 : b < 4294967296) (hm : m.toNat = n.toNat) (h0 : 0 ≤ m) (h1 : m ≤ 9223372036854775807) :
    Calls Try.prog 16 #[.int .u32 a, .int .u32 b, .int .i64 m] w fun e w' => e = .returned (.int .u32 (x : Nat)) ∧ Below w.heap.size w w' := by
  subst hx
  rw [← hm]
  obtain ⟨N, rfl⟩ := Int.eq_ofNat_of_zero_le h0
  exact refJoin_any a b N w ha hb0 (by omega)

set_option maxHeartbeats 1000000 in
set_option maxRecDepth 100000 in
theorem joins_walk (a b : Nat) (n : Int) (xo yo : Option Addr) (cx cy : Nat) (x y : List Int) (w : World) (ha : a < 4294967296) (hb : b < 4294967296) (hn0 : -9223372036854775808 ≤ n) (hn1 : n ≤ 9223372036854775807)
    (hx : Rd w xo x) (hxn : xo = none → cx = 0) (hxl : x.length ≤ 140737488355328) (hxu : U8 x) (hy : Rd w yo y) (hyn : yo = none → cy = 0) (hyl : y.length ≤ 140737488355328) (hyu : U8 y) :
    Calls Try.prog 4 #[.agg #[.int .u32 a, .int .u32 b], .int .i64 n, .agg #[.slice xo x.length cx, .slice yo y.length cy]] w fun e w' => e = .returned (.bool true) ∧ Below w.heap.size w w' := by
  obtain ⟨i0, hi, hz0, hz1, hz2⟩ := info_parts Try.info5
  go_enter Try.func4, Try.ntmps4
  go_wp2
  go_quiet (fail)
  obtain ⟨W, hW⟩ : ∃ W, W = (((w.alloc (Obj.cells #[Value.int IntKind.u32 a, Value.int IntKind.u32 b] 32)).alloc (Obj.cells #[Value.slice xo x.length cx, Value.slice yo y.length cy] 33)).drewN nq) := ⟨_, rfl⟩
  have hbW : Below w.heap.size w W := by
    have h := ((Below.refl w.heap.size w).alloc (Nat.le_refl _) (Obj.cells #[Value.int IntKind.u32 a, Value.int IntKind.u32 b] 32)).alloc (by simp) (Obj.cells #[Value.slice xo x.length cx, Value.slice yo y.length cy] 33)
    rw [hW]
    exact below_drewN h nq
  rw [← hW]
  have hxW := hx.below hbW
  have hyW := hy.below hbW
  clear hW hx hy
  obtain ⟨z, hz⟩ : ∃ z, hs (8 * n.toNat) a ^^^ b = z := ⟨_, rfl⟩
  go_wp2_with fail
  refine (join_at _ hz ha hb hn0 hn1).mono ?_
  rintro e w1 ⟨rfl, hb1⟩
  have hw1 := hbW.trans (hb1.mono hbW.size)
  obtain ⟨sx, hsx⟩ : ∃ s, sum (nats x) = s := ⟨_, rfl⟩
  obtain ⟨sy, hsy⟩ : ∃ s, sum (nats y) = s := ⟨_, rfl⟩
  obtain ⟨sb, hsb⟩ : ∃ s, sum (nats (x ++ y)) = s := ⟨_, rfl⟩
  have lx : sx < 4294967296 := by rw [← hsx]; exact sum_lt (nats_bytes hxu)
  have ly : sy < 4294967296 := by rw [← hsy]; exact sum_lt (nats_bytes hyu)
  have hj : hs (8 * (y.length : Int).toNat) sx ^^^ sy = sb := by
    rw [← hsx, ← hsy, ← hsb, nats_append, sum_join, nats_length, Int.toNat_natCast]
  have hm : more sx (nats y) = sb := by rw [← hsx, ← hsb, nats_append, more_sum]
  have hub : U8 (x ++ y) := fun v hv => by
    rcases List.mem_append.1 hv with h | h
    · exact hxu v h
    · exact hyu v h
  go_wp2_with fail
  all_goals
    refine (refJoin_at (n := n) _ hz ha hb (by omega) (by omega) (by omega)).mono ?_
    rintro e w2 ⟨rfl, hb2⟩
    have hw2 := hw1.trans (hb2.mono hw1.size)
    have hx2 := hxW.below (hb1.trans (hb2.mono hb1.size))
    have hy2 := hyW.below (hb1.trans (hb2.mono hb1.size))
    clear hb1 hb2
    by_cases hlen : 100000 < x.length + y.length
    · have hlen' : (100000 : Int) < (x.length : Int) + (y.length : Int) := by omega
      go_wp2_with (go_at_call 6; refine (known_any _).mono ?_; rintro e w3 ⟨rfl, hb3⟩)
      go_ret
      exact ⟨rfl, hw2.trans (hb3.mono hw2.size)⟩
    · have hlen' : ¬ (100000 : Int) < (x.length : Int) + (y.length : Int) := by omega
      go_wp2_with fail
      refine (sum_one sx hsx rfl rfl hx2 hxn hxu (by omega)).mono ?_
      rintro e w3 ⟨rfl, hb3⟩
      have hw3 := hw2.trans (hb3.mono hw2.size)
      have hx3 := hx2.below hb3
      have hy3 := hy2.below hb3
      go_wp2_with fail
      refine (sum_one sy hsy rfl rfl hy3 hyn hyu (by omega)).mono ?_
      rintro e w4 ⟨rfl, hb4⟩
      have hw4 := hw3.trans (hb4.mono hw3.size)
      have hx4 := hx3.below hb4
      have hy4 := hy3.below hb4
      go_wp2_with fail
      refine (join_at _ hj lx ly (by omega) (by omega)).mono ?_
      rintro e w5 ⟨rfl, hb5⟩
      have hw5 := hw4.trans (hb5.mono hw4.size)
      have hx5 := hx4.below hb5
      have hy5 := hy4.below hb5
      go_wp2_with fail
      refine (sum_two sb hsb rfl rfl rfl hx5 hxn hy5 hyn hxu hyu (by omega) (by omega)).mono ?_
      rintro e w6 ⟨rfl, hb6⟩
      have hw6 := hw5.trans (hb6.mono hw5.size)
      have hx6 := hx5.below hb6
      have hy6 := hy5.below hb6
      go_wp2_with fail
      refine (sum_one sx hsx rfl rfl hx6 hxn hxu (by omega)).mono ?_
      rintro e w7 ⟨rfl, hb7⟩
      have hw7 := hw6.trans (hb7.mono hw6.size)
      have hx7 := hx6.below hb7
      have hy7 := hy6.below hb7
      go_wp2_with fail
      refine (more_at sb hm rfl lx hy7 hyu (by omega)).mono ?_
      rintro e w8 ⟨rfl, hb8⟩
      have hw8 := hw7.trans (hb8.mono hw7.size)
      have hx8 := hx7.below hb8
      have hy8 := hy7.below hb8
      clear hb3 hb4 hb5 hb6 hb7 hb8 hx2 hx3 hx4 hx5 hx6 hx7 hy2 hy3 hy4 hy5 hy6 hy7
      have hown0 : Own 5 (w8.alloc (.cells #[] 5)) w8.heap.size (.slice (some ⟨w8.heap.size, 0, none⟩) 0 0) [] := World.ownsRow_lit w8 #[] 0 (Nat.le_refl _) (by decide) rfl
      have hx9 := hx8.alloc (.cells #[] 5)
      have hy9 := hy8.alloc (.cells #[] 5)
      have hw9 := hw8.alloc hw8.size (.cells #[] 5)
      go_wp2_with (first
        | (at_builtin; refine wpList_unguard rfl ?_; refine wpList_append_rd rfl _ _ 24 rfl w8.heap.size 5 i0 Try.underlying24 hi hz0 hz1 hz2 _ _ rfl hown0 xo cx x rfl hxn hx9 (by simp; omega) (by simp) ?_; intro ao1 cap1 wa hown1 hg1 hnil1; have hba : Below w8.heap.size w8 wa := below_own ((Below.refl _ _).alloc (Nat.le_refl _) _) (by simp) hown0 hg1; have hya := hy8.below hba; have hsa := hba.size; have hown1' : Own 5 wa w8.heap.size (.slice ao1 x.length cap1) x := by simpa using hown1)
        | (at_builtin; refine wpList_unguard rfl ?_; refine wpList_append_rd rfl _ _ 24 rfl w8.heap.size 5 i0 Try.underlying24 hi hz0 hz1 hz2 _ _ rfl hown1' yo cy y rfl hyn hya (by omega) hsa ?_; intro ao2 cap2 wb hown2 hg2 hnil2))
      have hbb : Below w8.heap.size w8 wb := below_own hba hsa hown1' hg2
      have hwb := hw8.trans (hbb.mono hw8.size)
      clear hg1 hg2 hown1 hown1' hown0 hx9 hy9 hw9 hba hbb hya
      go_wp2_with fail
      refine (sum_one sb hsb rfl (by simp) hown2.rd hnil2 hub (by omega)).mono ?_
      rintro e wc ⟨rfl, hbc⟩
      have hwc := hwb.trans (hbc.mono hwb.size)
      go_wp2_with fail
      refine (known_any _).mono ?_
      rintro e wd ⟨rfl, hbd⟩
      go_wp2
      go_ret
      exact ⟨rfl, hwc.trans (hbd.mono hwc.size)⟩
end Go.Proofs.Ytpgcnchbboohoaa
