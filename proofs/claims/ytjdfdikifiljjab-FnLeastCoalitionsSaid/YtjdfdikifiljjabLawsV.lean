/- Chapter 2: the small functions of the laws: contracts. -/
import Derived.Test.YtjdfdikifiljjabPureB
namespace Go.Proofs.Ytjdfdikifiljjab
open Go.ChangeShapes Go.WideShapes Go.ChangeAt Go.RowKit Go.Joins Go.Sort
set_option linter.unusedVariables false

theorem len_snocB (o : List Int) (x : Int) : o.length + 1 = (o ++ [x]).length := by simp
theorem nums_len (n : Nat) : (nums n).length = n := by
  induction n with
  | zero => rfl
  | succ n ih => unfold nums filK; rw [if_pos rfl, List.length_append]; show (nums n).length + 1 = n + 1; rw [ih]
set_option maxHeartbeats 400000 in
theorem isIn_any (sa : Option Addr) (cap n : Nat) (l : List Int) (x : Int) (w : World) (h : Lst w sa l) (hn : l.length = n) (hl : n ≤ 2000000) :
    Calls Try.prog 45 #[.slice sa n cap, .int .i64 x] w (Same (.bool (decide (x ∈ l))) w) := by
  subst hn
  have H := hide h; clear h
  go_enter Try.func45, Try.ntmps45
  go_wp2
  go_loop [5] (fun i => ∃ c : Nat, c ≤ l.length ∧ i = .int .i64 c ∧ Hid (x ∉ l.take c)) (fun i => l.length - (intOf i).toNat)
  case atStart => exact ⟨0, Nat.zero_le _, rfl, show _ ∉ _ by simp⟩
  case round =>
    obtain ⟨c, hc, rfl, HN⟩ := hrel
    by_cases hlt : c < l.length
    · obtain ⟨g, off, rfl, hg, c1⟩ := H.out.at hlt
      by_cases he : l.getD c 0 = x
      · have HF := hide (show true = decide (x ∈ l) from (decide_eq_true (by rw [← he]; exact getD_mem hlt)).symm)
        rw [he] at c1
        clear he
        go_wp2
        go_ret
        exact Same.bool HF.out
      · have HN2 := hide (show x ∉ l.take (c + 1) by
          rw [take_snoc l c hlt, List.mem_append, List.mem_singleton]
          rintro (h | h)
          · exact HN.out h
          · exact he h.symm)
        obtain ⟨y, hy⟩ : ∃ y, y = l.getD c 0 := ⟨_, rfl⟩; rw [← hy] at c1 he
        have hd : ((y : Int) == x) = false := by rw [beq_eq_false_iff_ne]; exact he
        clear hy he
        go_wp2
        go_round
        case rel => exact ⟨c + 1, by omega, by go_num, HN2⟩
        case measure => simp [intOf]; omega
    · have HF := hide (show false = decide (x ∈ l) by
        have := HN.out; rw [List.take_of_length_le (by omega)] at this; exact (decide_eq_false this).symm)
      go_wp2
      go_ret
      exact Same.bool HF.out
end Go.Proofs.Ytjdfdikifiljjab
