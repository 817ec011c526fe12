/-
  THE WALK over the law CrcSums.
-/
import Derived.Test.YtpgcnchbboohoaaJoinsW
namespace Go.Proofs.Ytpgcnchbboohoaa
open Go.RowKit Crc

theorem flat_take_le (L : List (List Int)) (k : Nat) : (L.take k).flatten.length ≤ L.flatten.length := by
  have h : L.flatten = (L.take k).flatten ++ (L.drop k).flatten := by rw [← List.flatten_append, List.take_append_drop]
  rw [h, List.length_append]; omega
theorem Rd.drewN {w : World} {ao : Option Addr} {l : List Int} (h : Rd w ao l) (n : Nat) : Rd (w.drewN n) ao l := h.below ⟨rfl, rfl, rfl, Nat.le_refl _, fun _ _ => rfl⟩
theorem Pieces.drewN {w : World} {ao : Option Addr} {L : List (List Int)} (h : Pieces w ao L) (n : Nat) : Pieces (w.drewN n) ao L := h.below ⟨rfl, rfl, rfl, Nat.le_refl _, fun _ _ => rfl⟩
theorem conv_rd {w : World} {ao : Option Addr} {n cap : Nat} {l : List Int} (hr : Rd w ao l) (hn : l.length = n) : (convert 24 9 (.slice ao n cap)).run Try.prog w = .ok (.string (strOfNums l)) w := by
  cases ao with
  | none =>
    have := hr.1 rfl
    subst this
    exact run_convert_bytes_nil w 24 5 Try.underlying24 Try.underlying5 _ _ 9 Try.underlying9
  | some a =>
    cases l with
    | nil =>
      simp at hn
      subst hn
      rw [run_convert_bytes_string w 24 9 5 _ 0 cap Try.underlying24 Try.underlying5 Try.underlying9, run_bytesToString w a 0 cap [] (by simp [loadCells, loadCellsFrom])]
      rfl
    | cons b l =>
      obtain ⟨ab, off, ha, _⟩ := hr.at (k := 0) (b := b) rfl
      cases ha
      refine run_convert_bytes_arg w 24 5 Try.underlying24 Try.underlying5 ab off n cap (b :: l) hn ?_ 9 Try.underlying9
      intro i hi
      have := hr.2 _ rfl i (.int .u8 ((b :: l).getD i 0)) (by rw [u8s_get, List.getD, List.getElem?_eq_getElem (by omega)]; rfl)
      rwa [add_lit] at this
/-- A part of bytes that can be read. -/
theorem slice_rd {w : World} {ao : Option Addr} {l : List Int} {n cap i j : Nat} (hr : Rd w ao l) (hl : l.length = n) (hij : i ≤ j) (hj : j ≤ n) (hc : n ≤ cap) :
    ∃ A, (∀ w', (Instr.slice 24 (.slice ao n cap) (some (.int .i64 i)) (some (.int .i64 j)) none).run Try.prog w' = .ok (.slice A (j - i) (cap - i)) w') ∧ Rd w A ((l.drop i).take (j - i)) := by
  refine ⟨if cap = i then ao else ao.map (fun x => x.add (i * 1)), fun w' => ?_, ?_⟩
  · have h1 : (0 : Int) ≤ (i : Int) ∧ (i : Int) ≤ (j : Int) := by omega
    have h2 : (0 : Int) ≤ (j : Int) ∧ (j : Int) ≤ (cap : Int) := by omega
    simp [Instr.slice, Instr.sliceBounds, Instr.sliceBound, asIntOf, run_underlying Try.underlying24, go_sem, hij, show j ≤ cap by omega]
  · by_cases hci : cap = i
    · rw [if_pos hci, show j - i = 0 by omega, List.take_zero]
      exact Rd.nil _ _
    · rw [if_neg hci]
      cases ao with
      | none => have := hr.1 rfl; subst this; simp; exact Rd.nil _ _
      | some a =>
        refine ⟨by simp, ?_⟩
        intro a' ha' k u hk
        simp only [Option.map_some, Option.some.injEq, Nat.mul_one] at ha'
        subst ha'
        have hk' : (u8s l)[i + k]? = some u := by
          rw [u8s_get] at hk ⊢
          rw [List.getElem?_take] at hk
          split at hk
          · rwa [List.getElem?_drop] at hk
          · simp at hk
        have := hr.2 a rfl (i + k) u hk'
        obtain ⟨b, hb⟩ : ∃ b, l[i + k]? = some b := by
          rw [u8s_get] at hk'
          cases h : l[i + k]? with
          | none => rw [h] at hk'; simp at hk'
          | some b => exact ⟨b, rfl⟩
        obtain ⟨ab, off, ha, _⟩ := hr.at hb
        cases ha
        rw [add_lit] at this ⊢
        rw [add_lit, Nat.add_assoc]
        exact this

theorem beq_swap (S s : Nat) : ((s : Int) == (S : Int)) = decide ((S : Int) = (s : Int)) := by
  by_cases h : (S : Int) = (s : Int)
  · rw [h]; simp
  · rw [decide_eq_false h]
    have h' : ¬ (s : Int) = (S : Int) := fun e => h e.symm
    rw [beq_eq_false_iff_ne]
    exact h'
theorem holds_at {a1 : Option Addr} {n c1 : Nat} {l : List Int} {s : Nat} {w : World} (b : Bool) {x : Nat} (hb : decide ((x : Int) = (s : Int)) = b) (hx : sum (nats l) = x) (hl : l.length = n) (hr : Rd w a1 l) (hn : a1 = none → c1 = 0) (hu : U8 l) (hlen : n ≤ 9223372036854775807) :
    Calls Try.prog 11 #[.slice a1 n c1, .int .u32 s] w fun e w' => e = .returned (.bool b) ∧ Below w.heap.size w w' := by
  subst hb; exact holds_any x hx hl hr hn hu hlen
theorem Own.cap {e : TypeId} {w : World} {B n cap : Nat} {ao : Option Addr} {l : List Int} (h : Own e w B (.slice ao n cap) l) : l.length ≤ cap ∧ cap ≤ 9223372036854775807 := by
  rcases h.2 with ⟨h1, h2⟩ | ⟨g, c, cur, h1, _, _, h4, h5, _⟩
  · simp only [Value.slice.injEq] at h1; omega
  · simp only [Value.slice.injEq] at h1
    unfold maxLen at h5
    omega
theorem far_at {a x : Nat} {m n : Int} (w : World) (hx : hs (8 * n.toNat) a = x) (ha : a < 4294967296) (hm : m.toNat = n.toNat) (h0 : 0 ≤ m) (h1 : m ≤ 9223372036854775807) :
    Calls Try.prog 12 #[.int .u32 a, .int .i64 m] w fun e w' => e = .returned (.int .u32 (x : Nat)) ∧ Below w.heap.size w w' := by
  subst hx
  rw [← hm]
  obtain ⟨N, rfl⟩ := Int.eq_ofNat_of_zero_le h0
  exact far_any a N w ha (by omega)
theorem refZeros_at {s x : Nat} {n : Int} (w : World) (hx : hs (8 * n.toNat) (s ^^^ full) ^^^ full = x) (hs0 : s < 4294967296) (h0 : -9223372036854775808 ≤ n) (h1 : n ≤ 9223372036854775807) :
    Calls Try.prog 14 #[.int .u32 s, .int .i64 n] w fun e w' => e = .returned (.int .u32 (x : Nat)) ∧ w' = w := by
  subst hx; exact refZeros_any s n w hs0 h0 h1
theorem u32_xor_full (s : Nat) (h : s < 4294967296) : bits .xor .u32 (s : Int) 4294967295 = ((s ^^^ full : Nat) : Int) := u32_xor_nat s 4294967295 h (by decide)
theorem refSum_at {ao : Option Addr} {n cap : Nat} {l : List Int} {w : World} (x : Nat) (hx : sum (nats l) = x) (hn : l.length = n) (hr : Rd w ao l) (hl : U8 l) (hlen : n ≤ 9223372036854775807) :
    Calls Try.prog 8 #[.slice ao n cap] w fun e w' => e = .returned (.int .u32 (x : Nat)) ∧ w' = w := by
  subst hn hx; exact refSum_any ao cap l w hr hl hlen
theorem refMore_at {ao : Option Addr} {n cap s : Nat} {l : List Int} {w : World} (x : Nat) (hx : more s (nats l) = x) (hn : l.length = n) (hs0 : s < 4294967296) (hr : Rd w ao l) (hl : U8 l) (hlen : n ≤ 9223372036854775807) :
    Calls Try.prog 10 #[.int .u32 s, .slice ao n cap] w fun e w' => e = .returned (.int .u32 (x : Nat)) ∧ w' = w := by
  subst hn hx; exact refMore_any s ao cap l w hs0 hr hl hlen

set_option maxHeartbeats 2000000 in
set_option maxRecDepth 100000 in
theorem sums_walk (lo : Option Addr) (cl : Nat) (L : List (List Int)) (s : Nat) (n : Int) (w : World) (hs0 : s < 4294967296) (hn0 : -9223372036854775808 ≤ n) (hn1 : n ≤ 9223372036854775807)
    (hp : Pieces w lo L) (hu : ∀ l ∈ L, U8 l) (hL : L.length ≤ 140737488355328) (hF : L.flatten.length ≤ 140737488355328) :
    Calls Try.prog 3 #[.slice lo L.length cl, .int .u32 s, .int .i64 n] w fun e w' => e = .returned (.bool true) ∧ Below w.heap.size w w' := by
  obtain ⟨i0, hi, hz0, hz1, hz2⟩ := info_parts Try.info5
  go_enter Try.func3, Try.ntmps3
  go_wp2
  go_loopw [7, 8] (fun v i wr => ∃ (k : Nat) (p : List Int) (ao' : Option Addr) (cap' : Nat), k ≤ L.length ∧ i = .int .i64 k ∧ p = (L.take k).flatten ∧ v = .slice ao' p.length cap' ∧ Own 5 wr w.heap.size (.slice ao' p.length cap') p ∧ (ao' = none → cap' = 0) ∧ Below w.heap.size w wr)
    (fun _ i _ => L.length - (intOf i).toNat)
  case atStart => exact ⟨0, [], _, _, Nat.zero_le _, rfl, by simp, rfl, World.ownsRow_lit w #[] 0 (Nat.le_refl _) (by decide) rfl, by simp, (Below.refl _ _).alloc (Nat.le_refl _) _⟩
  case round =>
    obtain ⟨k, p, ao', cap', hk, rfl, hpk, rfl, hown, hnil, hb⟩ := hrel
    have hsz := hb.size
    have HP : Hid (p = (L.take k).flatten) := hpk
    by_cases hlt : k < L.length
    · obtain ⟨l, hl⟩ : ∃ l, L[k]? = some l := ⟨_, List.getElem?_eq_getElem hlt⟩
      have hle : p.length + l.length ≤ 140737488355328 := by
        have h1 := flat_snoc L k l hl
        have h2 := flat_take_le L (k + 1)
        rw [h1, ← hpk, List.length_append] at h2
        omega
      have HL : Hid (L[k]? = some l) := hl
      obtain ⟨ab, off, aj, cj, rfl, hc, hr, hn⟩ := (hp.below hb).at hl
      clear hl hpk
      go_wp2_with (at_builtin; refine wpList_append_rd rfl _ _ 24 rfl w.heap.size 5 i0 Try.underlying24 hi hz0 hz1 hz2 _ _ rfl hown aj cj l rfl hn hr hle hsz ?_)
      intro ao1 cap1 w1 hown' hgrow hnil'
      have hb' := below_own hb hsz hown hgrow
      clear hgrow hown hr hc
      go_wp2
      go_roundw
      case rel => exact ⟨k + 1, p ++ l, ao1, cap1, by omega, by go_num, by rw [flat_snoc L k l HL.out, ← HP.out], by simp, by simpa using hown', hnil', hb'⟩
      case measure => simp [intOf]; omega
    · clear hpk
      have he : p = L.flatten := by rw [HP.out, List.take_of_length_le (by omega)]
      have HE : Hid (p = L.flatten) := he
      have hpl : p.length ≤ 140737488355328 := by rw [he]; exact hF
      have hup : U8 p := by rw [he]; have := U8.flat hu L.length; rwa [List.take_length] at this
      have hp1 := hp.below hb
      clear he HP
      by_cases hbig : 100000 < p.length
      · have hbig' : (100000 : Int) < (p.length : Int) := by omega
        clear hp1
        go_wp2_with (go_at_call 6; refine (known_any _).mono ?_; rintro e w3 ⟨rfl, hb3⟩)
        go_ret
        exact ⟨rfl, hb.trans (hb3.mono hb.size)⟩
      · have hbig' : ¬ (100000 : Int) < (p.length : Int) := by omega
        obtain ⟨S, hS⟩ : ∃ S, sum (nats p) = S := ⟨_, rfl⟩
        have hS7 : sum (nats L.flatten) = S := by rw [← HE.out]; exact hS
        have HS8 : Hid (sum (nats p) = S) := hS
        obtain ⟨M, hM⟩ : ∃ M, more s (nats p) = M := ⟨_, rfl⟩
        have HM9 : Hid (more s (nats p) = M) := hM
        have hpl' : p.length ≤ 9223372036854775807 := by omega
        have hr0 := hown.rd
        have c7 := sum_any lo cl L wr hp1 hu (by omega) (fun l hl => by
          have h1 : l.length ≤ L.flatten.length := (List.sublist_flatten_of_mem hl).length_le
          omega)
        rw [hS7] at c7
        clear hS hM hS7 hbig
        go_wp2_with fail
        refine c7.mono ?_
        rintro e w1 ⟨rfl, hb1⟩
        have hw1 := hb.trans (hb1.mono hb.size)
        have hr1 := hr0.below hb1
        have hp2 := hp1.below hb1
        clear c7 hb1
        go_wp2_with fail
        refine (refSum_at S HS8.out rfl hr1 hup hpl').mono ?_
        rintro e w2 ⟨rfl, rfl⟩
        go_wp2_with fail
        refine (more_at M HM9.out rfl hs0 hr1 hup hpl').mono ?_
        rintro e w3 ⟨rfl, hb3⟩
        have hw3 := hw1.trans (hb3.mono hw1.size)
        have hr3 := hr1.below hb3
        have hp3 := hp2.below hb3
        clear hb3
        go_wp2_with fail
        refine (refMore_at M HM9.out rfl hs0 hr3 hup hpl').mono ?_
        rintro e w4 ⟨rfl, rfl⟩
        go_wp2_with fail
        refine (holds_any S HS8.out rfl hr3 hnil hup hpl').mono ?_
        rintro e w5 ⟨rfl, hb5⟩
        have hw5 := hw3.trans (hb5.mono hw3.size)
        have hr5 := hr3.below hb5
        have hp5 := hp3.below hb5
        clear hb5
        go_wp2_with fail
        obtain ⟨b, hdb⟩ : ∃ b, decide ((S : Int) = (s : Int)) = b := ⟨_, rfl⟩
        have hbe : ((s : Int) == (S : Int)) = b := by rw [← hdb]; exact beq_swap S s
        refine (holds_at b hdb HS8.out rfl hr5 hnil hup hpl').mono ?_
        rintro e w6 ⟨rfl, hb6⟩
        have hw6 := hw5.trans (hb6.mono hw5.size)
        have hr6 := hr5.below hb6
        have hp6 := hp5.below hb6
        have hcap := hown.cap
        have hownb := hown.blk
        clear hb6 hr0 hr1 hr3 hr5 hp1 hp2 hp3 hp5 hw1 hw3 hw5 hdb hown
        go_wp2
        clear hbe
        go_loopw [10, 11] (fun i q wq => ∃ j : Nat, j ≤ L.length ∧ i = .int .i64 j ∧ q = .int .i64 ((L.take j).flatten.length : Nat) ∧ Rd wq ao' p ∧ Pieces wq lo L ∧ Below w.heap.size w wq)
          (fun i _ _ => L.length - (intOf i).toNat)
        case atStart => exact ⟨0, by omega, rfl, rfl, hr6, hp6, hw6⟩
        case round =>
          clear hr6 hp6 hw6 hp
          obtain ⟨j, hj, rfl, rfl, hrq, hpq, hbq⟩ := hrel
          by_cases hjl : j < L.length
          · obtain ⟨l, hl⟩ : ∃ l, L[j]? = some l := ⟨_, List.getElem?_eq_getElem hjl⟩
            have h1 := flat_snoc L j l hl
            have hq0 : (L.take j).flatten.length + l.length ≤ p.length := by
              have h2 := flat_take_le L (j + 1)
              rw [h1, List.length_append] at h2
              rw [HE.out]; omega
            have hpart : (p.drop (L.take j).flatten.length).take l.length = l := by
              rw [HE.out]
              have e : L.flatten = (L.take j).flatten ++ (l ++ (L.drop (j + 1)).flatten) := by
                rw [← List.append_assoc, ← h1, ← List.flatten_append, List.take_append_drop]
              rw [e, List.drop_left, List.take_left]
            have HQ : Hid ((L.take (j + 1)).flatten.length = (L.take j).flatten.length + l.length) := by
              show (L.take (j + 1)).flatten.length = _
              rw [h1, List.length_append]
            obtain ⟨q, hq⟩ : ∃ q, q = (L.take j).flatten.length := ⟨_, rfl⟩
            rw [← hq] at hq0 hpart HQ ⊢
            clear hq h1
            obtain ⟨ab, off, aj, cj, rfl, hc, hr, _⟩ := hpq.at hl
            obtain ⟨A, hsl0, hrA⟩ := slice_rd (i := q) (j := q + l.length) hrq rfl (by omega) (by omega) hcap.1
            rw [show q + l.length - q = l.length by omega] at hrA
            rw [hpart] at hrA
            have hsl : ∀ w', (Instr.slice 24 (.slice ao' p.length cap') (some (.int .i64 q)) (some (.int .i64 ((q : Int) + (l.length : Int)))) none).run Try.prog w' = .ok (.slice A l.length (cap' - q)) w' := fun w' => by
              have := hsl0 w'
              rw [show q + l.length - q = l.length by omega, show ((q + l.length : Nat) : Int) = (q : Int) + (l.length : Int) by omega] at this
              exact this
            have c1 : ∀ n, (convert 24 9 (.slice aj l.length cj)).run Try.prog (wr.drewN n) = .ok (.string (strOfNums l)) (wr.drewN n) := fun n => conv_rd (hr.drewN n) rfl
            have c2 : ∀ n, (convert 24 9 (.slice A l.length (cap' - q))).run Try.prog (wr.drewN n) = .ok (.string (strOfNums l)) (wr.drewN n) := fun n => conv_rd (hrA.drewN n) rfl
            clear hsl0 hpart hr hrA hl
            go_wp2
            go_quiet (fail)
            have hrn := hrq.drewN nq
            have hpn := hpq.drewN nq
            clear c1 c2 hsl hrq hpq
            go_wp2
            go_roundw
            case rel => exact ⟨j + 1, by omega, by go_num, by rw [HQ.out]; go_num, hrn, hpn, below_drewN hbq nq⟩
            case measure => simp [intOf]; omega
          · clear hrq hpq
            have hx := u32_xor_full s hs0
            have hx0 : s ^^^ full < 4294967296 := xor_lt hs0 (by decide)
            obtain ⟨x0, he⟩ : ∃ x0, x0 = s ^^^ full := ⟨_, rfl⟩
            rw [← he] at hx hx0
            obtain ⟨y0, hy0⟩ : ∃ y0, hs (8 * n.toNat) x0 = y0 := ⟨_, rfl⟩
            have hyl : y0 < 4294967296 := by rw [← hy0]; exact hs_lt _ hx0
            have hy := u32_xor_full y0 hyl
            have hZ : hs (8 * n.toNat) (s ^^^ full) ^^^ full = y0 ^^^ full := by rw [← he, hy0]
            obtain ⟨z, hz⟩ : ∃ z, y0 ^^^ full = z := ⟨_, rfl⟩
            rw [hz] at hy hZ
            have HZ : Hid (hs (8 * n.toNat) (s ^^^ full) ^^^ full = z) := hZ
            have HY : Hid (hs (8 * n.toNat) x0 = y0) := hy0
            clear he hy0 hz hZ
            go_wp2_with fail
            all_goals
              refine (far_at (n := n) _ HY.out hx0 (by omega) (by omega) (by omega)).mono ?_
              rintro e w7 ⟨rfl, hb7⟩
              have hw7 := hbq.trans (hb7.mono hbq.size)
              clear hb7
              go_wp2_with fail
              refine (zeros_at _ HZ.out hs0 hn0 hn1).mono ?_
              rintro e w8 ⟨rfl, hb8⟩
              have hw8 := hw7.trans (hb8.mono hw7.size)
              clear hb8
              by_cases h5 : 500 < n
              · go_wp2_with (go_at_call 6; refine (known_any _).mono ?_; rintro e w9 ⟨rfl, hb9⟩)
                go_ret
                exact ⟨rfl, hw8.trans (hb9.mono hw8.size)⟩
              · go_wp2_with (first
                  | (go_at_call 14; refine (refZeros_at _ HZ.out hs0 hn0 hn1).mono ?_; rintro e w9 ⟨rfl, rfl⟩)
                  | (go_at_call 6; refine (known_any _).mono ?_; rintro e w9 ⟨rfl, hb9⟩))
                go_ret
                exact ⟨rfl, hw8.trans (hb9.mono hw8.size)⟩
end Go.Proofs.Ytpgcnchbboohoaa
