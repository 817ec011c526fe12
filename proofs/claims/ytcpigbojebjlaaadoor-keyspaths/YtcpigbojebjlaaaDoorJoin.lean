/-
  PATHS' TEXTS: plainly (joinB), and what the program's Join answers.
-/
import Derived.Test.YtcpigbojebjlaaaDoorPath
import Derived.Test.YtcpigbojebjlaaaDoorBuild
namespace Go.Proofs.YtcpigbojebjlaaaDoor
open Go.RowKit Go.Shelf
set_option linter.unusedSimpArgs false

def joinB (l : List ByteArray) : List UInt8 := if l = [] then [47] else l.flatMap (fun s => 47 :: s.data.toList)
theorem path_sizes {l : List ByteArray} (h : pathB l = true) : l.length ≤ 6 ∧ ∀ s ∈ l, s.size ≤ 64 := by
  unfold pathB at h
  rw [Bool.and_eq_true, decide_eq_true_eq, List.all_eq_true] at h
  refine ⟨h.1, fun s hs => ?_⟩
  have := h.2 s hs
  unfold keyB at this
  simp only [Bool.and_eq_true, decide_eq_true_eq] at this
  rw [Lib.size_eq]
  exact this.1.1.2
theorem flatJ_length (l : List ByteArray) (h : ∀ s ∈ l, s.size ≤ 64) : (l.flatMap (fun s => 47 :: s.data.toList)).length ≤ 65 * l.length := by
  induction l with
  | nil => simp
  | cons b l ih =>
    have h1 := h b (by simp)
    have h2 := ih (fun s hs => h s (by simp [hs]))
    rw [List.flatMap_cons, List.length_append]
    rw [Lib.size_eq] at h1
    simp only [List.length_cons]
    omega
theorem flatJ_take (l : List ByteArray) (i : Nat) (s : ByteArray) (h : l[i]? = some s) : (l.take (i + 1)).flatMap (fun s => 47 :: s.data.toList) = (l.take i).flatMap (fun s => 47 :: s.data.toList) ++ [47] ++ s.data.toList := by
  obtain ⟨h1, rfl⟩ := List.getElem?_eq_some_iff.1 h
  rw [List.take_succ_eq_append_getElem h1, List.flatMap_append]
  simp
def joinE (l : List ByteArray) : Value := if pathB l then .tuple #[.string ⟨(joinB l).toArray⟩, .int .i64 0] else .tuple #[.string ⟨#[]⟩, .int .i64 2]

set_option maxHeartbeats 2000000 in
set_option maxRecDepth 100000 in
theorem join_any {w : World} {ao : Option Addr} {c : Nat} {l : List ByteArray} (h : Rs w ao l) (hcap : l.length ≤ c) (hn : ao = none → c = 0) (hT : Tabs w) (hlen : l.length ≤ 140737488355328) :
    Calls Tryd.prog 23 #[.slice ao l.length c] w fun e w' => e = .returned (joinE l) ∧ Below w.heap.size w w' := by
  have hp := path_any h hcap hn hT hlen
  unfold joinE
  cases hpb : pathB l with
  | false =>
    rw [hpb] at hp
    go_enter Tryd.func23, Tryd.ntmps23
    go_wp2_with (go_at_call 25; refine hp.mono ?_; rintro e w1 ⟨rfl, b1⟩)
    go_ret2
    exact ⟨rfl, b1⟩
  | true =>
    rw [hpb] at hp
    obtain ⟨hl6, hsz⟩ := path_sizes hpb
    simp only [if_true]
    by_cases h0 : l = []
    · subst h0
      go_enter Tryd.func23, Tryd.ntmps23
      go_wp2_with (go_at_call 25; refine hp.mono ?_; rintro e w1 ⟨rfl, b1⟩)
      go_ret2
      exact ⟨rfl, b1⟩
    · rw [joinB, if_neg h0]
      have hl0 : 0 < l.length := List.length_pos_iff.2 h0
      obtain ⟨N, hN⟩ : ∃ N, N = l.length := ⟨_, rfl⟩
      rw [← hN] at hp hl0 hl6 ⊢
      have hz : ((N : Int) == 0) = false := by simp; omega
      have H := hide (And.intro hN (And.intro h hsz))
      clear hN h hsz h0 hpb hcap hlen
      go_enter Tryd.func23, Tryd.ntmps23
      go_wp2_with (go_at_call 25; refine hp.mono ?_; rintro e w1 ⟨rfl, b1⟩)
      have hs1 := b1.size
      have hbA : Below w.heap.size w (w1.alloc (.cells #[.pointer none, .slice none 0 0] 61)) := b1.alloc hs1 _
      have hf0 := Bd.fresh w1 (w1.heap.size + 1)
      have HI := hide (And.intro hbA hf0)
      clear hbA hf0
      go_loopw [15] (fun iv wr => ∃ (i : Nat) (v : Value), i ≤ N ∧ iv = .int .i64 i ∧ Hid (Bd wr (w1.heap.size + 1) w1.heap.size v ((l.take i).flatMap (fun s => 47 :: s.data.toList))) ∧ Hid (Below w.heap.size w wr) ∧ w1.heap.size + 1 ≤ wr.heap.size) (fun iv _ => N - (intOf iv).toNat)
      case atStart => exact ⟨0, _, Nat.zero_le _, rfl, hide (by simpa using HI.out.2), hide HI.out.1, by simp⟩
      case round =>
        obtain ⟨i, v, hi, rfl, HB, HW, hsw⟩ := hrel
        by_cases hlt : i < N
        · have hlt' : (i : Int) < (N : Int) := by omega
          have hdl : decide (i < N) = true := by simpa using hlt
          obtain ⟨s, hs⟩ : ∃ s, l[i]? = some s := ⟨_, List.getElem?_eq_getElem (by rw [← H.out.1]; exact hlt)⟩
          obtain ⟨ab, off, rfl, hcs⟩ := (H.out.2.1.below HW.out).at hs
          have hss := H.out.2.2 s (List.mem_of_getElem? hs)
          have hft := flatJ_take l i s hs
          have hacc : ((l.take i).flatMap (fun s => 47 :: s.data.toList)).length ≤ 400 := by
            have := flatJ_length (l.take i) (fun s hs => H.out.2.2 s (List.mem_of_mem_take hs))
            have h2 : (l.take i).length ≤ 6 := by rw [List.length_take]; omega
            omega
          obtain ⟨acc, hac⟩ : ∃ acc, acc = (l.take i).flatMap (fun s => 47 :: s.data.toList) := ⟨_, rfl⟩
          rw [← hac] at HB hft hacc
          have HF := hide hft
          have hw47 : Calls Tryd.prog 40 #[.pointer (some ⟨w1.heap.size, 0, none⟩), .int .u8 47] wr fun e w' => e = .returned .nilIface ∧ Wrote wr w' (w1.heap.size + 1) w1.heap.size v (acc ++ [47]) := writeByte_any 47 HB.out (by omega) hsw
          have hwS : ∀ W v', Bd W (w1.heap.size + 1) w1.heap.size v' (acc ++ [47]) → w1.heap.size + 1 ≤ W.heap.size → Calls Tryd.prog 48 #[.pointer (some ⟨w1.heap.size, 0, none⟩), .string s] W fun e w' => e = .returned (.tuple #[.int .i64 s.size, .nilIface]) ∧ Wrote W w' (w1.heap.size + 1) w1.heap.size v' (acc ++ [47] ++ s.data.toList) := fun W v' hb hW => writeString_any s hb (by simp only [List.length_append, List.length_cons, List.length_nil]; omega) hW
          clear hft hac hs
          go_wp2_with (first
            | (go_at_call 40; refine hw47.mono ?_; rintro e W2 ⟨rfl, v2, hB2, o2⟩; have hS2 := hwS W2 v2 hB2 (Nat.le_trans hsw o2.size))
            | (go_at_call 48; refine hS2.mono ?_; rintro e W3 ⟨rfl, v3, hB3, o3⟩))
          go_roundw
          case rel =>
            have hD2 : ∀ k, (k = w1.heap.size ∨ v.ownBlock = some k) → w.heap.size ≤ k := fun k e => by
              rcases e with e | e
              · omega
              · have := (HB.out.blk k e).1; omega
            have hD3 : ∀ k, (k = w1.heap.size ∨ v2.ownBlock = some k) → w.heap.size ≤ k := fun k e => by
              rcases e with e | e
              · omega
              · have := (hB2.blk k e).1; omega
            have t2 := Below.only HW.out o2 HW.out.size hD2
            exact ⟨i + 1, v3, by omega, by go_num, hide (by rw [HF.out]; exact hB3), hide (Below.only t2 o3 t2.size hD3), Nat.le_trans hsw (Nat.le_trans o2.size o3.size)⟩
          case measure => simp [intOf]; omega
        · obtain rfl : i = N := by omega
          have hdl : decide (i < i) = false := by simp
          have hst := string_any HB.out (B' := w.heap.size) (by omega) (by omega) HW.out.size
          rw [List.take_of_length_le (by rw [← H.out.1]; omega)] at hst
          have HW' := hide HW.out
          clear HB HI H HW
          go_wp2_with (go_at_call 41; refine hst.mono ?_; rintro e w' ⟨rfl, b9⟩)
          go_ret2
          exact ⟨rfl, HW'.out.trans b9⟩
end Go.Proofs.YtcpigbojebjlaaaDoor
