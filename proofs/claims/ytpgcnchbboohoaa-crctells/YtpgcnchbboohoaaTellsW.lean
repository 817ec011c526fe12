/-
  THE WALK over the law CrcTells.
-/
import Derived.Test.YtpgcnchbboohoaaTellsP
import Derived.Deep.DeepCutAuto
import Derived.Deep.CutBlock
import Derived.BigRegion
namespace Go.Proofs.Ytpgcnchbboohoaa
open Go.RowKit Crc

/-- A byte of what is owned is written. -/
theorem Own.store {e : TypeId} {w : World} {B n cap k : Nat} {ao : Option Addr} {l : List Int} (h : Own e w B (.slice ao n cap) l) (hk : k < l.length) :
    ∃ g, ao = some ⟨g, 0, none⟩ ∧ w.cell? ⟨g, k, none⟩ = some (.int .u8 (l.getD k 0)) ∧ w.frozen? ⟨g, k, none⟩ = false ∧ B ≤ g ∧ g < w.heap.size ∧
      ∀ x, Own e (w.setCell ⟨g, k, none⟩ (.int .u8 x)) B (.slice ao n cap) (l.set k x) ∧ w.grownBy (w.setCell ⟨g, k, none⟩ (.int .u8 x)) (some g) := by
  have h2 := h.2
  have hb := h.blk
  rcases h2 with ⟨h1, h3⟩ | ⟨g, c, cur, h1, _⟩
  · omega
  · simp only [Value.slice.injEq] at h1
    obtain ⟨rfl, rfl, rfl⟩ := h1
    refine ⟨g, rfl, ?_, World.ownsRow.frozenAt h k, (hb _ rfl).1, (hb _ rfl).2, fun x => ?_⟩
    · rw [World.ownsRow.cellAt h k (by omega), u8s_get, List.getElem?_eq_getElem hk, List.getD_eq_getElem?_getD, List.getElem?_eq_getElem hk]; rfl
    · obtain ⟨r1, r2⟩ := World.ownsRow.stored h k (.int .u8 x)
      refine ⟨?_, r2⟩
      unfold Own
      rw [List.length_set]
      have : u8s (l.set k x) = (u8s l).set k (.int .u8 x) := by simp [u8s, List.map_set]
      rw [this]
      exact r1

/-- The three places, as a list. -/
def atOf (a0 a1 a2 : Int) : Nat → Int
  | 0 => a0
  | 1 => a1
  | _ => a2
theorem atOf_cell (W : World) (a0 a1 a2 : Int) (t : TypeId) (j : Nat) (h : j < 3) : (W.alloc (.cells #[.int .i64 a0, .int .i64 a1, .int .i64 a2] t)).cell? ⟨W.heap.size, j, none⟩ = some (.int .i64 (atOf a0 a1 a2 j)) := by
  rw [cell_of_row _ _ j #[.int .i64 a0, .int .i64 a1, .int .i64 a2] t (0, 0) (heap_alloc_last W _)]
  match j, h with
  | 0, _ => rfl
  | 1, _ => rfl
  | 2, _ => rfl

theorem shl_u8 {r : Nat} (h : r < 8) : IntKind.u8.wrap (2 ^ r) = ((2 ^ r : Nat) : Int) := by
  have h1 : 2 ^ r < 2 ^ 8 := Nat.pow_lt_pow_right (by omega) h
  obtain ⟨p, hp⟩ : ∃ p, p = 2 ^ r := ⟨_, rfl⟩
  rw [show ((2 : Int) ^ r) = (p : Int) by rw [hp]; simp, ← hp]
  rw [← hp] at h1
  clear hp
  simp only [IntKind.wrap, IntKind.bits, IntKind.signed]
  simp
  omega

/-- A bit of what is owned is turned: all that the walk asks. -/
theorem flip_store {w : World} {B N cap : Nat} {yo : Option Addr} {l : List Int} (hown : Own 5 w B (.slice yo N cap) l) (hu : U8 l) (K : Nat) (hK : K < 8 * l.length) :
    ∃ g y z p8 q r : Nat, yo = some ⟨g, 0, none⟩ ∧ (K : Int) / 8 = q ∧ (K : Int) % 8 = r ∧ w.cell? ⟨g, q, none⟩ = some (.int .u8 y) ∧ w.frozen? ⟨g, q, none⟩ = false ∧ y < 256 ∧ r < 8 ∧ q < l.length ∧
      IntKind.u8.wrap (2 ^ r) = (p8 : Int) ∧ bits .xor .u8 (y : Int) (p8 : Int) = z ∧ B ≤ g ∧ g < w.heap.size ∧ Own 5 (w.setCell ⟨g, q, none⟩ (.int .u8 z)) B (.slice yo N cap) (flipI l K) ∧ w.grownBy (w.setCell ⟨g, q, none⟩ (.int .u8 z)) (some g) := by
  obtain ⟨g, hg, hc, hf, hB, hgs, hst⟩ := hown.store (k := K / 8) (by omega)
  have h8 := hu.getD (K / 8)
  have hy : (l.getD (K / 8) 0).toNat < 256 := by omega
  obtain ⟨h1, h2⟩ := hst (((l.getD (K / 8) 0).toNat ^^^ 2 ^ (K % 8) : Nat) : Int)
  exact ⟨g, (l.getD (K / 8) 0).toNat, (l.getD (K / 8) 0).toNat ^^^ 2 ^ (K % 8), 2 ^ (K % 8), K / 8, K % 8, hg, by omega, by omega, by rw [hc]; congr 2; omega, hf, hy, by omega, by omega, shl_u8 (by omega), u8_xor_nat _ _ hy (pow8 K), hB, hgs, h1, h2⟩

set_option maxHeartbeats 4000000 in
set_option maxRecDepth 100000 in
theorem tells_walk (bo co : Option Addr) (cb cc : Nat) (b c : List Int) (a0 a1 a2 : Int) (u : Nat) (w : World) (hu : u < 4294967296)
    (ha0 : -9223372036854775808 ≤ a0 ∧ a0 ≤ 9223372036854775807) (ha1 : -9223372036854775808 ≤ a1 ∧ a1 ≤ 9223372036854775807) (ha2 : -9223372036854775808 ≤ a2 ∧ a2 ≤ 9223372036854775807)
    (hb : Rd w bo b) (hbn : bo = none → cb = 0) (hbl : b.length ≤ 140737488355328) (hbu : U8 b) (hc : Rd w co c) (hcl : c.length ≤ 140737488355328) (hcu : U8 c) :
    Calls Try.prog 5 #[.agg #[.slice bo b.length cb, .slice co c.length cc], .agg #[.int .i64 a0, .int .i64 a1, .int .i64 a2], .int .u32 u] w fun e w' => e = .returned (.bool true) ∧ Below w.heap.size w w' := by
  obtain ⟨i0, hi, hz0, hz1, hz2⟩ := info_parts Try.info5
  go_enter Try.func5, Try.ntmps5
  go_wp2
  go_quiet (fail)
  have hat0 := fun j h => atOf_cell (w.alloc (.cells #[.slice bo b.length cb, .slice co c.length cc] 33)) a0 a1 a2 36 j h
  rw [show (w.alloc (.cells #[.slice bo b.length cb, .slice co c.length cc] 33)).heap.size = w.heap.size + 1 by simp] at hat0
  obtain ⟨W, hW⟩ : ∃ W, W = (((w.alloc (.cells #[.slice bo b.length cb, .slice co c.length cc] 33)).alloc (.cells #[.int .i64 a0, .int .i64 a1, .int .i64 a2] 36)).drewN nq) := ⟨_, rfl⟩
  have hbW : Below w.heap.size w W := by
    rw [hW]
    exact below_drewN (((Below.refl w.heap.size w).alloc (Nat.le_refl _) _).alloc (by simp) _) nq
  have hat : ∀ j, j < 3 → W.cell? ⟨w.heap.size + 1, j, none⟩ = some (.int .i64 (atOf a0 a1 a2 j)) := fun j h => by rw [hW]; exact hat0 j h
  have hWs : w.heap.size + 2 ≤ W.heap.size := by rw [hW]; simp
  rw [← hW]
  have hb1 := hb.below hbW
  have hc1 := hc.below hbW
  clear hW hat0 hb hc
  by_cases hlen0 : b.length = 0
  · have l0 : ((b.length : Int) = 0) := by omega
    clear hb1 hc1 hat
    go_wp2_with (go_at_call 6; refine (known_any _).mono ?_; rintro e w3 ⟨rfl, hb3⟩)
    go_ret
    exact ⟨rfl, hbW.trans (hb3.mono hbW.size)⟩
  by_cases hlen1 : 65536 < b.length
  · have l0 : ¬ ((b.length : Int) = 0) := by omega
    have l1 : (65536 : Int) < (b.length : Int) := by omega
    clear hb1 hc1 hat
    go_wp2_with (go_at_call 6; refine (known_any _).mono ?_; rintro e w3 ⟨rfl, hb3⟩)
    go_ret
    exact ⟨rfl, hbW.trans (hb3.mono hbW.size)⟩
  have l0 : ¬ ((b.length : Int) = 0) := by omega
  have l1 : ¬ (65536 : Int) < (b.length : Int) := by omega
  have hown0 : Own 5 (W.alloc (.cells #[] 5)) W.heap.size (.slice (some ⟨W.heap.size, 0, none⟩) 0 0) [] := World.ownsRow_lit W #[] 0 (Nat.le_refl _) (by decide) rfl
  have hb2 := hb1.alloc (.cells #[] 5)
  go_wp2_with (at_builtin; refine wpList_append_rd rfl _ _ 24 rfl W.heap.size 5 i0 Try.underlying24 hi hz0 hz1 hz2 _ _ rfl hown0 bo cb b rfl hbn hb2 (by simp; omega) (by simp) ?_; intro xo cx w1 hownx hg1 hnilx)
  have hown1 : Own 5 w1 W.heap.size (.slice xo b.length cx) b := by simpa using hownx
  have hw1 : Below W.heap.size W w1 := below_own ((Below.refl _ _).alloc (Nat.le_refl _) _) (by simp) hown0 hg1
  obtain ⟨kf, hkf⟩ := Classical.axiomOfChoice (fun j => mod_abs (atOf a0 a1 a2 j) b.length (by omega))
  have hai : ∀ j, -9223372036854775808 ≤ atOf a0 a1 a2 j ∧ atOf a0 a1 a2 j ≤ 9223372036854775807 := fun j => by
    match j with
    | 0 => exact ha0
    | 1 => exact ha1
    | _ + 2 => exact ha2
  clear hown0 hb2 hownx hg1
  go_loopw [10] (fun i wr => ∃ j : Nat, j ≤ 3 ∧ i = .int .i64 j ∧ Own 5 wr W.heap.size (.slice xo b.length cx) (flips b kf j) ∧ Below W.heap.size W wr) (fun i _ => 3 - (intOf i).toNat)
  case atStart => exact ⟨0, by omega, rfl, hown1, hw1⟩
  case round =>
    clear hown1 hw1
    obtain ⟨j, hj, rfl, hown, hbr⟩ := hrel
    by_cases hj3 : j < 3
    · have hcell := (hbr.cell (p := ⟨w.heap.size + 1, j, none⟩) (show w.heap.size + 1 < W.heap.size by omega)).trans (hat j hj3)
      obtain ⟨hka, hkb⟩ := hkf j
      obtain ⟨hq0, hq1⟩ := hai j
      obtain ⟨k, hk⟩ : ∃ k, k = kf j := ⟨_, rfl⟩
      have HF : Hid (flips b kf (j + 1) = flipI (flips b kf j) k) := by show flips b kf (j + 1) = _; rw [hk]; rfl
      rw [← hk] at hka hkb
      obtain ⟨a, ha⟩ : ∃ a, atOf a0 a1 a2 j = a := ⟨_, rfl⟩
      rw [ha] at hcell hkb hq0 hq1
      obtain ⟨g, rfl, hcg, hfg, hBg, hgs, hst⟩ := hown.store (k := k / 8) (by rw [flips_length]; omega)
      have hl8 : (flips b kf j).getD (k / 8) 0 = (((flips b kf j).getD (k / 8) 0).toNat : Int) := by have := (flips_u8 hbu kf j).getD (k / 8); omega
      have hy8 : ((flips b kf j).getD (k / 8) 0).toNat < 256 := by have := (flips_u8 hbu kf j).getD (k / 8); omega
      have hfl : ∀ x : Nat, x = ((flips b kf j).getD (k / 8) 0).toNat ^^^ 2 ^ (k % 8) → (flips b kf j).set (k / 8) (x : Int) = flips b kf (j + 1) := fun x hx => by rw [HF.out, flipI, hx]
      rw [hl8] at hcg
      obtain ⟨y, hy⟩ : ∃ y, y = ((flips b kf j).getD (k / 8) 0).toNat := ⟨_, rfl⟩
      rw [← hy] at hcg hfl hy8
      have hp := pow8 k
      have hxx := u8_xor_nat y (2 ^ (k % 8)) hy8 hp
      obtain ⟨z, hz⟩ : ∃ z, z = y ^^^ 2 ^ (k % 8) := ⟨_, rfl⟩
      have hst' := hst (z : Int)
      rw [hfl z hz] at hst'
      rw [← hz] at hxx
      have hkq : (k : Int) / 8 = ((k / 8 : Nat) : Int) := by omega
      have hkr : (k : Int) % 8 = ((k % 8 : Nat) : Int) := by omega
      have hqn : k / 8 < b.length := by omega
      have hr8 : k % 8 < 8 := by omega
      obtain ⟨q, hq⟩ : ∃ q, q = k / 8 := ⟨_, rfl⟩
      obtain ⟨r, hr⟩ : ∃ r, r = k % 8 := ⟨_, rfl⟩
      rw [← hq] at hkq hcg hfg hst' hqn
      rw [← hr] at hkr hp hxx hr8
      obtain ⟨p8, hp8⟩ : ∃ p, p = 2 ^ r := ⟨_, rfl⟩
      have hsh : IntKind.u8.wrap (2 ^ r) = (p8 : Int) := by rw [hp8]; exact shl_u8 hr8
      rw [← hp8] at hp hxx
      clear hk ha hai hat hl8 hy hz hfl hst hq hr hp8
      rcases hkb with ⟨hk0, hm⟩ | ⟨hk0, hm⟩
      all_goals
        go_wp2
        go_region
        go_wp2
        go_roundw
        case rel => exact ⟨j + 1, by omega, by go_num, hst'.1.drew, (hbr.grown hst'.2 hbr.size (fun k hk => by cases hk; exact hBg)).drew⟩
        case measure => simp [intOf]; omega
    · obtain rfl : j = 3 := by omega
      rw [show ((3 : Nat) : Int) = 3 from rfl]
      have hXl := flips_length b kf 3
      have hXu := flips_u8 hbu kf 3
      have hXs := flips_ne b kf (fun j => (hkf j).1)
      obtain ⟨X, hX⟩ : ∃ X, X = flips b kf 3 := ⟨_, rfl⟩
      rw [← hX] at hXl hXu hXs hown
      have hXne : ((strOfNums X).toList == (strOfNums b).toList) = false := str_ne hXu hbu (fun e => hXs (by rw [e]))
      obtain ⟨sx, hsx⟩ : ∃ s, sum (nats X) = s := ⟨_, rfl⟩
      obtain ⟨sb, hsb⟩ : ∃ s, sum (nats b) = s := ⟨_, rfl⟩
      have hsne : ((sx : Int) == (sb : Int)) = false := by
        rw [beq_eq_false_iff_ne]
        intro e
        exact hXs (by rw [hsx, hsb]; omega)
      have hbr1 := hb1.below hbr
      have cx1 := conv_rd (cap := cx) hown.rd hXl
      have cb1 := conv_rd (cap := cb) hbr1 rfl
      have HXL : Hid (X.length = b.length) := hXl
      clear hXs hX hXl hai
      go_wp2_with fail
      refine (sum_one sx hsx rfl HXL.out hown.rd hnilx hXu (by omega)).mono ?_
      rintro e w2 ⟨rfl, hb2⟩
      have hown2 := hown.below hb2
      have hbr2 := hbr.trans (hb2.mono hbr.size)
      clear cx1 cb1 hown hbr hbr1 hb2
      go_wp2_with fail
      refine (sum_one sb hsb rfl rfl (hb1.below hbr2) hbn hbu (by omega)).mono ?_
      rintro e w3 ⟨rfl, hb3⟩
      have hown3 := hown2.below hb3
      have hbr3 := hbr2.trans (hb3.mono hbr2.size)
      clear hown2 hbr2 hb3
      have hat00 : W.cell? ⟨w.heap.size + 1, 0, none⟩ = some (.int .i64 a0) := hat 0 (by omega)
      have hown0y : Own 5 (w3.alloc (.cells #[] 5)) w3.heap.size (.slice (some ⟨w3.heap.size, 0, none⟩) 0 0) [] := World.ownsRow_lit w3 #[] 0 (Nat.le_refl _) (by decide) rfl
      have hb3 := (hb1.below hbr3).alloc (.cells #[] 5)
      obtain ⟨hka, hkb⟩ := hkf 0
      obtain ⟨k, hk⟩ : ∃ k, k = kf 0 := ⟨_, rfl⟩
      rw [← hk] at hka hkb
      have hkb' : (0 ≤ k ∧ a0.tmod (8 * (b.length : Int)) = k) ∨ (0 < k ∧ a0.tmod (8 * (b.length : Int)) = -(k : Int)) := hkb
      clear hkb hkf hk hat
      go_upto_if 87 with (at_builtin; refine wpList_append_rd rfl _ _ 24 rfl w3.heap.size 5 i0 Try.underlying24 hi hz0 hz1 hz2 _ _ rfl hown0y bo cb b rfl hbn hb3 (by simp; omega) (by simp) ?_; intro yo cy w4 howny hg4 hnily; have hw4 : Below w3.heap.size w3 w4 := below_own ((Below.refl _ _).alloc (Nat.le_refl _) _) (by simp) hown0y hg4; have hbr4 := hbr3.trans (hw4.mono hbr3.size); have hcell0 := (hbr4.cell (p := ⟨w.heap.size + 1, 0, none⟩) (show w.heap.size + 1 < W.heap.size by omega)).trans hat00)
      have hown4 : Own 5 w4 w3.heap.size (.slice yo b.length cy) b := by simpa using howny
      clear hown0y hb3 hg4 howny hbr4 hcell0
      go_cut [13] (fun kv wc => kv = .int .i64 (k : Nat) ∧ wc = w4)
      case first =>
        rcases hkb' with ⟨hk0, hm⟩ | ⟨hk0, hm⟩
        all_goals
          go_wp2
          go_meet
          exact ⟨by first | rfl | rw [hm], rfl⟩
      case rest =>
        obtain ⟨rfl, rfl⟩ := hcut
        clear hkb'
        go_upto_block 2 with fail
        go_cut [14] (fun _ wq => ∃ (v : Nat) (ly : List Int), v < 4294967296 ∧ ly.length = b.length ∧ U8 ly ∧ Own 5 wq w3.heap.size (.slice yo b.length cy) ly ∧ sum (nats ly) = sum (nats b) ^^^ hs (8 * b.length - k) v ∧ (v = 0 → ly = b) ∧ Below w3.heap.size w3 wq)
        case first =>
          go_wp2_with fail
          go_loopw [14] (fun i wr => ∃ (j : Nat) (ly : List Int), j ≤ 32 ∧ k + j ≤ 8 * b.length ∧ i = .int .i64 j ∧ ly.length = b.length ∧ U8 ly ∧ Own 5 wr w3.heap.size (.slice yo b.length cy) ly ∧ sum (nats ly) = sum (nats b) ^^^ hs (8 * b.length - k) (u % 2 ^ j) ∧ (u % 2 ^ j = 0 → ly = b) ∧ Below w3.heap.size w3 wr) (fun i _ => 32 - (intOf i).toNat)
          case atStart =>
            refine ⟨0, b, by omega, by omega, rfl, rfl, hbu, hown4, ?_, fun _ => rfl, hw4⟩
            rw [Nat.pow_zero, Nat.mod_one, hs_zero, Nat.xor_zero]
          case round =>
            clear hown4 hw4
            obtain ⟨j, ly, hj, hkj, rfl, hyl, hyu, hyo, hys, hy0, hyb⟩ := hrel
            have HYS : Hid (sum (nats ly) = sum (nats b) ^^^ hs (8 * b.length - k) (u % 2 ^ j)) := hys
            have HYL : Hid (ly.length = b.length) := hyl
            by_cases hgo : j < 32 ∧ k + j < 8 * b.length
            · obtain ⟨hj32, hkj8⟩ := hgo
              have g1 : (j : Int) < 32 := by omega
              have g2 : (k : Int) + (j : Int) < 8 * (b.length : Int) := by omega
              have hd : (u : Int) / 2 ^ j = ((u / 2 ^ j : Nat) : Int) := by simp
              have HLow : Hid (u % 2 ^ (j + 1) = if u / 2 ^ j % 2 = 1 then u % 2 ^ j ^^^ 2 ^ j else u % 2 ^ j) := low_succ u j
              obtain ⟨xj, hxj⟩ : ∃ x, x = u / 2 ^ j := ⟨_, rfl⟩
              rw [← hxj] at hd HLow
              have HXJ : Hid (xj = u / 2 ^ j) := hxj
              clear hxj
              by_cases ho : xj % 2 = 1
              · have ho' : (xj : Int) % 2 = 1 := by omega
                obtain ⟨g, y, z, p8, q, r, rfl, hq, hr, hcg, hfg, hy8, hr8, hql, hsh, hxx, hBg, hgs, hst1, hst2⟩ := flip_store hyo hyu (k + j) (by omega)
                rw [show ((k + j : Nat) : Int) = (k : Int) + (j : Int) by omega] at hq hr
                rw [hyl] at hql
                clear hys hyl hyo
                go_wp2
                go_region
                go_wp2
                go_roundw
                case rel =>
                  refine ⟨j + 1, flipI ly (k + j), by omega, by omega, by go_num, by rw [flipI_length]; exact HYL.out, hyu.flipI _, hst1.drew, ?_, ?_, (hyb.grown hst2 hyb.size (fun k hk => by cases hk; exact hBg)).drew⟩
                  · rw [nats_flipI, HLow.out, if_pos ho]
                    have := sum_burst_step (nats b) (nats ly) k j (u % 2 ^ j) (by rw [nats_length, nats_length, HYL.out]) (by rw [nats_length]; exact HYS.out) (by rw [nats_length]; omega)
                    rw [nats_length] at this
                    exact this
                  · intro hz
                    exfalso
                    have h1 : u % 2 ^ (j + 1) = u % 2 ^ j + 2 ^ j := by rw [mod_succ, if_pos (by rw [← HXJ.out]; exact ho)]
                    have h2 := Nat.two_pow_pos j
                    omega
                case measure => simp [intOf]; omega
              · have ho' : ¬ (xj : Int) % 2 = 1 := by omega
                clear hys hyl
                go_wp2
                go_roundw
                case rel =>
                  refine ⟨j + 1, ly, by omega, by omega, by go_num, HYL.out, hyu, hyo, ?_, ?_, hyb⟩
                  · rw [HLow.out, if_neg ho]; exact HYS.out
                  · rw [HLow.out, if_neg ho]; exact hy0
                case measure => simp [intOf]; omega
            · have hvl : u % 2 ^ j < 4294967296 := Nat.lt_of_le_of_lt (Nat.mod_le _ _) hu
              clear hys hyl
              by_cases hj32 : j < 32
              · have g1 : (j : Int) < 32 := by omega
                have g2 : ¬ (k : Int) + (j : Int) < 8 * (b.length : Int) := by omega
                go_wp2
                go_meet
                exact ⟨u % 2 ^ j, ly, hvl, HYL.out, hyu, hyo, HYS.out, hy0, hyb⟩
              · have g1 : ¬ (j : Int) < 32 := by omega
                go_wp2
                go_meet
                exact ⟨u % 2 ^ j, ly, hvl, HYL.out, hyu, hyo, HYS.out, hy0, hyb⟩
        case rest =>
          obtain ⟨v, ly, hvl, hyl, hyu, hyo, hys, hy0, hyb⟩ := hcut
          have hbc := (hb1.below hbr3).below hyb
          have hbs := hyb.size
          have HYL : Hid (ly.length = b.length) := hyl
          obtain ⟨sy, hsy⟩ : ∃ s, sum (nats ly) = s := ⟨_, rfl⟩
          have HSY : Hid (sum (nats ly) = sy) := hsy
          have HSB : Hid (sum (nats b) = sb) := hsb
          have cy1 := conv_rd (cap := cy) hyo.rd hyl
          have cb1 := conv_rd (cap := cb) hbc rfl
          rw [hsy] at hys
          have HV : Hid (v = 0 ∨ (ly ≠ b ∧ ((sy : Int) == (sb : Int)) = false)) := by
            by_cases h0 : v = 0
            · exact Or.inl h0
            · refine Or.inr ?_
              have h1 := burst_ne (nats b) sy _ v hvl hys h0
              rw [hsb] at h1
              refine ⟨fun e => h1 (by rw [← hsy, e, hsb]), ?_⟩
              rw [beq_eq_false_iff_ne]
              omega
          clear hown4 hw4 hsy hys hyl hsb
          go_upto_region 23 with fail
          go_cut [140] (fun rv wq => rv = .bool false ∧ Own 5 wq w3.heap.size (.slice yo b.length cy) ly ∧ Below w3.heap.size w3 wq)
          case first =>
            rcases HV.out with rfl | ⟨hne, hsn⟩
            · have := hy0 rfl
              subst this
              have hbe : ((strOfNums ly).toList == (strOfNums ly).toList) = true := by simp
              go_wp2
              go_meet
              exact ⟨rfl, hyo, hyb⟩
            · have hbe := str_ne hyu hbu hne
              go_wp2_with fail
              refine (sum_one sy HSY.out rfl HYL.out hyo.rd hnily hyu (by omega)).mono ?_
              rintro e w5 ⟨rfl, hb5⟩
              have hyo5 := hyo.below hb5
              have hyb5 := hyb.trans (hb5.mono hyb.size)
              clear cy1 cb1
              go_wp2_with fail
              refine (sum_one sb HSB.out rfl rfl (hbc.below hb5) hbn hbu (by omega)).mono ?_
              rintro e w6 ⟨rfl, hb6⟩
              have hyo6 := hyo5.below hb6
              have hyb6 := hyb5.trans (hb6.mono hyb5.size)
              go_wp2
              go_meet
              exact ⟨rfl, hyo6, hyb6⟩
          case rest =>
            obtain ⟨rfl, _, hyb2⟩ := hcut
            have hbz := (hb1.below hbr3).below hyb2
            have hcz := (hc1.below hbr3).below hyb2
            have hXz := hown3.below hyb2
            have hWz := hbr3.trans (hyb2.mono hbr3.size)
            have HSX : Hid (sum (nats X) = sx) := hsx
            clear hyo hyb hbc hbs HYL HSY HV cy1 cb1 hy0 hyu hnily hyb2 hb1 hc1 hown3 hsx hbr3 hvl hsne hXne hat00
            go_wp2_with (at_make; refine wpList_make_full _ rfl _ _ 24 rfl wc.heap.size 5 i0 (.int .u8 0) 1 Try.underlying24 hi hz0 hz1 .i64 .i64 _ _ b.length rfl rfl rfl rfl (by rw [hz2]; omega) (by unfold maxLen; omega) (Nat.le_refl _) ?_; intro w7 hz7 hg7)
            have hw7 : Below wc.heap.size wc w7 := (Below.refl _ _).grown hg7 (Nat.le_refl _) (by simp)
            have hownz : Own 5 w7 wc.heap.size (.slice (some ⟨wc.heap.size, 0, none⟩) b.length b.length) (gl b.length (fun i => c.getD i 0) 0) := by
              unfold Own
              rw [gl_zero, List.length_replicate]
              rw [made_u8] at hz7
              exact hz7
            clear hz7 hg7
            go_loopw [16] (fun i wr => ∃ j : Nat, j ≤ b.length ∧ i = .int .i64 j ∧ Own 5 wr wc.heap.size (.slice (some ⟨wc.heap.size, 0, none⟩) b.length b.length) (gl b.length (fun i => c.getD i 0) j) ∧ Below wc.heap.size wc wr) (fun i _ => b.length - (intOf i).toNat)
            case atStart => exact ⟨0, by omega, rfl, hownz, hw7⟩
            case round =>
              clear hownz hw7
              obtain ⟨j, hj, rfl, hoz, hbz1⟩ := hrel
              by_cases hjb : j < b.length
              · by_cases hjc : j < c.length
                · obtain ⟨e, he⟩ : ∃ e, c[j]? = some e := ⟨_, List.getElem?_eq_getElem hjc⟩
                  have HE : Hid (c.getD j 0 = e) := by show c.getD j 0 = e; rw [List.getD_eq_getElem?_getD, he]; rfl
                  obtain ⟨ab, aoff, rfl, hcc⟩ := (hcz.below hbz1).at he
                  obtain ⟨g, hg, hcg, hfg, _, _, hst⟩ := hoz.store (k := j) (by rw [gl_length]; exact hjb)
                  simp only [Option.some.injEq, Addr.mk.injEq, and_true] at hg
                  subst hg
                  obtain ⟨hs1, hs2⟩ := hst e
                  have hs3 : (gl b.length (fun i => c.getD i 0) j).set j e = gl b.length (fun i => c.getD i 0) (j + 1) := by rw [← HE.out]; exact gl_set (f := fun i => c.getD i 0) hjb
                  rw [hs3] at hs1
                  clear hst he hs3 hcz
                  go_wp2
                  go_roundw
                  case rel => exact ⟨j + 1, by omega, by go_num, hs1, hbz1.grown hs2 hbz1.size (fun k hk => by cases hk; exact Nat.le_refl _)⟩
                  case measure => simp [intOf]; omega
                · have hz : c.getD j 0 = 0 := by rw [List.getD_eq_getElem?_getD, List.getElem?_eq_none (by omega)]; rfl
                  have HZ : Hid (gl b.length (fun i => c.getD i 0) (j + 1) = gl b.length (fun i => c.getD i 0) j) := gl_same (f := fun i => c.getD i 0) hz
                  clear hz hcz
                  go_wp2
                  go_roundw
                  case rel => exact ⟨j + 1, by omega, by go_num, by rw [HZ.out]; exact hoz, hbz1⟩
                  case measure => simp [intOf]; omega
              · obtain rfl : j = b.length := by omega
                have hZu : U8 (gl b.length (fun i => c.getD i 0) b.length) := gl_u8 (fun i => hcu.getD i)
                have hZl := gl_length b.length b.length (fun i => c.getD i 0)
                obtain ⟨Z, hZ⟩ : ∃ Z, Z = gl b.length (fun i => c.getD i 0) b.length := ⟨_, rfl⟩
                rw [← hZ] at hZu hZl hoz
                have HZL : Hid (Z.length = b.length) := hZl
                clear hZ hZl hcz
                obtain ⟨wz, hwz⟩ : ∃ wz, wz = wr := ⟨_, rfl⟩
                subst hwz
                have hXy := hXz.below hbz1
                have hby := hbz.below hbz1
                have hWy := hWz.trans (hbz1.mono hWz.size)
                clear hXz hbz hbz1 hWz
                go_wp2_with (at_make; refine wpList_make_full _ rfl _ _ 24 rfl wz.heap.size 5 i0 (.int .u8 0) 1 Try.underlying24 hi hz0 hz1 .i64 .i64 _ _ b.length rfl rfl rfl rfl (by rw [hz2]; omega) (by unfold maxLen; omega) (Nat.le_refl _) ?_; intro w8 hz8 hg8)
                have hw8 : Below wz.heap.size wz w8 := (Below.refl _ _).grown hg8 (Nat.le_refl _) (by simp)
                have hown8 : Own 5 w8 wz.heap.size (.slice (some ⟨wz.heap.size, 0, none⟩) b.length b.length) (gl b.length (xor3 b X Z) 0) := by
                  unfold Own
                  rw [gl_zero, List.length_replicate]
                  rw [made_u8] at hz8
                  exact hz8
                clear hz8 hg8
                go_loopw [18] (fun i wr => ∃ j : Nat, j ≤ b.length ∧ i = .int .i64 j ∧ Own 5 wr wz.heap.size (.slice (some ⟨wz.heap.size, 0, none⟩) b.length b.length) (gl b.length (xor3 b X Z) j) ∧ Below wz.heap.size wz wr) (fun i _ => b.length - (intOf i).toNat)
                case atStart => exact ⟨0, by omega, rfl, hown8, hw8⟩
                case round =>
                  clear hown8 hw8
                  obtain ⟨j, hj, rfl, how, hbw⟩ := hrel
                  by_cases hjb : j < b.length
                  · have q1 := hbu.getD j
                    have q2 := hXu.getD j
                    have q3 := hZu.getD j
                    obtain ⟨y1, hy1⟩ : ∃ y, y = (b.getD j 0).toNat := ⟨_, rfl⟩
                    obtain ⟨y2, hy2⟩ : ∃ y, y = (X.getD j 0).toNat := ⟨_, rfl⟩
                    obtain ⟨y3, hy3⟩ : ∃ y, y = (Z.getD j 0).toNat := ⟨_, rfl⟩
                    have e1 : b[j]? = some (y1 : Int) := by rw [List.getElem?_eq_getElem hjb]; rw [List.getD_eq_getElem?_getD, List.getElem?_eq_getElem hjb] at hy1 q1; simp at hy1 q1; congr 1; omega
                    have e2 : X[j]? = some (y2 : Int) := by have := HXL.out; rw [List.getElem?_eq_getElem (by omega)]; rw [List.getD_eq_getElem?_getD, List.getElem?_eq_getElem (by omega)] at hy2 q2; simp at hy2 q2; congr 1; omega
                    have e3 : Z[j]? = some (y3 : Int) := by have := HZL.out; rw [List.getElem?_eq_getElem (by omega)]; rw [List.getD_eq_getElem?_getD, List.getElem?_eq_getElem (by omega)] at hy3 q3; simp at hy3 q3; congr 1; omega
                    have n1 : y1 < 256 := by omega
                    have n2 : y2 < 256 := by omega
                    have n3 : y3 < 256 := by omega
                    have x1 := u8_xor_nat y1 y2 n1 n2
                    have n4 : y1 ^^^ y2 < 256 := Nat.xor_lt_two_pow (n := 8) n1 n2
                    have x2 := u8_xor_nat (y1 ^^^ y2) y3 n4 n3
                    have HXO : Hid (xor3 b X Z j = ((y1 ^^^ y2 ^^^ y3 : Nat) : Int)) := by show xor3 b X Z j = _; rw [xor3, ← hy1, ← hy2, ← hy3]
                    obtain ⟨t, ht⟩ : ∃ t, t = y1 ^^^ y2 := ⟨_, rfl⟩
                    rw [← ht] at x1 x2 n4 HXO
                    obtain ⟨t2, ht2⟩ : ∃ t2, t2 = t ^^^ y3 := ⟨_, rfl⟩
                    rw [← ht2] at x2 HXO
                    obtain ⟨b1, o1, rfl, c1⟩ := (hby.below hbw).at e1
                    obtain ⟨b2, o2, rfl, c2⟩ := (hXy.rd.below hbw).at e2
                    obtain ⟨b3, o3, hz3, c3⟩ := (hoz.rd.below hbw).at e3
                    simp only [Option.some.injEq, Addr.mk.injEq, and_true] at hz3
                    obtain ⟨rfl, rfl⟩ := hz3
                    obtain ⟨g, hg, hcg, hfg, _, _, hst⟩ := how.store (k := j) (by rw [gl_length]; exact hjb)
                    simp only [Option.some.injEq, Addr.mk.injEq, and_true] at hg
                    subst hg
                    obtain ⟨hs1, hs2⟩ := hst (t2 : Int)
                    have hs3 : (gl b.length (xor3 b X Z) j).set j (t2 : Int) = gl b.length (xor3 b X Z) (j + 1) := by rw [← HXO.out]; exact gl_set hjb
                    rw [hs3] at hs1
                    rw [Nat.zero_add] at c3
                    clear hst hs3 e1 e2 e3 hy1 hy2 hy3 ht ht2 q1 q2 q3
                    go_wp2
                    go_region
                    go_wp2
                    go_roundw
                    case rel => exact ⟨j + 1, by omega, by go_num, hs1.drew, (hbw.grown hs2 hbw.size (fun k hk => by cases hk; exact Nat.le_refl _)).drew⟩
                    case measure => simp [intOf]; omega
                  · obtain rfl : j = b.length := by omega
                    have hVu : U8 (gl b.length (xor3 b X Z) b.length) := gl_u8 (fun i => xor3_u8 hbu hXu hZu i)
                    have hVl := gl_length b.length b.length (xor3 b X Z)
                    have hVs := sum_xor3 b X Z HXL.out HZL.out
                    obtain ⟨V, hV⟩ : ∃ V, V = gl b.length (xor3 b X Z) b.length := ⟨_, rfl⟩
                    rw [← hV] at hVu hVl hVs how
                    obtain ⟨sz, hsz⟩ : ∃ s, sum (nats Z) = s := ⟨_, rfl⟩
                    obtain ⟨sv, hsv⟩ : ∃ s, sum (nats V) = s := ⟨_, rfl⟩
                    rw [HSB.out, HSX.out, hsz, hsv] at hVs
                    have lb : sb < 4294967296 := by rw [← HSB.out]; exact sum_lt (nats_bytes hbu)
                    have lx : sx < 4294967296 := by rw [← HSX.out]; exact sum_lt (nats_bytes hXu)
                    have lz : sz < 4294967296 := by rw [← hsz]; exact sum_lt (nats_bytes hZu)
                    have x1 := u32_xor_nat sb sx lb lx
                    have l4 : sb ^^^ sx < 4294967296 := xor_lt lb lx
                    have x2 := u32_xor_nat (sb ^^^ sx) sz l4 lz
                    rw [hVs] at x2
                    obtain ⟨t, ht⟩ : ∃ t, t = sb ^^^ sx := ⟨_, rfl⟩
                    rw [← ht] at x1 x2
                    have HSZ : Hid (sum (nats Z) = sz) := hsz
                    have HSV : Hid (sum (nats V) = sv) := hsv
                    have HVL : Hid (V.length = b.length) := hVl
                    have hb9 := hby.below hbw
                    have hX9 := hXy.rd.below hbw
                    have hZ9 := hoz.rd.below hbw
                    have hV9 := how.rd
                    have hW9 := hWy.trans (hbw.mono hWy.size)
                    clear hV hsz hsv ht hVs hVl hby hXy hoz how hbw hWy l4
                    go_wp2_with fail
                    refine (sum_one sb HSB.out rfl rfl hb9 hbn hbu (by omega)).mono ?_
                    rintro e v1 ⟨rfl, d1⟩
                    go_wp2_with fail
                    refine (sum_one sx HSX.out rfl HXL.out (hX9.below d1) hnilx hXu (by omega)).mono ?_
                    rintro e v2 ⟨rfl, d2⟩
                    have d12 := d1.trans (d2.mono d1.size)
                    go_wp2_with fail
                    refine (sum_one sz HSZ.out rfl HZL.out (hZ9.below d12) (by simp) hZu (by omega)).mono ?_
                    rintro e v3 ⟨rfl, d3⟩
                    have d13 := d12.trans (d3.mono d12.size)
                    go_wp2_with fail
                    refine (sum_one sv HSV.out rfl HVL.out (hV9.below d13) (by simp) hVu (by omega)).mono ?_
                    rintro e v4 ⟨rfl, d4⟩
                    have d14 := d13.trans (d4.mono d13.size)
                    go_wp2_with fail
                    refine (known_any _).mono ?_
                    rintro e v5 ⟨rfl, d5⟩
                    have d15 := d14.trans (d5.mono d14.size)
                    have hfin := hbW.trans ((hW9.trans (d15.mono hW9.size)).mono hbW.size)
                    go_wp2
                    go_ret
                    exact ⟨rfl, hfin⟩
end Go.Proofs.Ytpgcnchbboohoaa
